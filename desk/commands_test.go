package desk_test

import (
	"fmt"
	"slices"
	"strings"
	"testing"

	"proviso/api"
	"proviso/infer"
)

// behind are lines behind those of ready.
func behind(l ...string) string { return script(append(slices.Clone(ready), l...)...) }

func TestP25_1SourceKeepsAllOfItsText(t *testing.T) {
	for _, x := range []struct{ text, want string }{
		{"", "module 0"},
		{" ", "module 0"},
		{"  ", "module 0"},
		{" fun f() { }", "module 1"},
		{" fun   f (  ) {  }   ", "module 1"},
		{"  fun f() { }", "module 1"},
		{" \tfun f()\r{ }\t", "module 1"},
		{" fun f() { } // fun g() { }", "module 1"},
		{" record r { x int } fun f() { } fun g() { }", "module 2"},
		{" x", "error 110"},
		{" source a x", "error 110"},
		{" compile a", "error 110"},
		{" fun f() { } \x00", "error 100"},
		{" \xff", "error 100"},
		{" fun f() { }\v", "error 100"},
		{" \u00a0fun f() { }", "error 100"},
		{" ä", "error 100"},
		{" ' '", "error 100"},
		{" fun f() { return 1; }", "error 123"},
		{" fun f() int { return true; }", "error 121"},
		{" fun f() int { }", "error 124"},
		{" fun f() { g(); }", "error 120"},
		{" fun f() { } fun f() { }", "error 20"},
		{" fun f() { tell 2147483649; }", "error 101"},
		{" fun f() {" + strings.Repeat("{", 99), "error 110"},
		{" fun f() { tell " + strings.Repeat("(", 65) + "1" + strings.Repeat(")", 65) + "; }", "error 111"},
		{" fun f() {" + strings.Repeat(" tell 1;", 900) + " }", "error 130"},
	} {
		isAnswered(t, script("source a"+x.text, "compile a"), x.want)
		isAnswered(t, script("source b fun f() { }", "source a"+x.text, "source c y", "compile a", "compile b"), x.want, "module 1")
	}
}

func TestP25_1SourceIsAnotherOne(t *testing.T) {
	isAnswered(t, script("source a fun f() int { return 1; }", "mean a f", "source a fun f() int { return 2; }", "mean a f", "compile a", "run a f", "source a fun f() int { return 3; }", "run a f", "mean a f", "compile a", "run a f"),
		"ok 1", "ok 2", "module 1", "ok 2", "ok 2", "ok 3", "module 1", "ok 3")
}

func TestP25_1Compile(t *testing.T) {
	many := ""
	for i := range 64 {
		many += fmt.Sprintf(" fun f%d() { }", i)
		isAnswered(t, script("source a"+many, "compile a"), fmt.Sprint("module ", i+1))
	}
	isAnswered(t, script("source a"+many+" fun more() { }", "compile a"), "error 125")
	// the module's name is that of its source
	long := strings.Repeat("x", 24)
	isAnswered(t, script("source a fun f() { }", "compile a", "ship a", "source "+long+" fun f() { }", "compile "+long, "ship "+long), "module 1", "file 21", "module 1", "file 44")
	// without certificates, also where there were some
	isLast(t, behind("check a", "compile a", "check a", "bare a f", "ship a"), "good", "module 13", "error 1", "error 1", "file 322")
}

func TestP25_1Infer(t *testing.T) {
	isAnswered(t, script("source a", "compile a", "infer a", "check a"), "module 0", "certified 0", "error 1")
	isAnswered(t, script("source a fun f() { }", "compile a", "infer a", "infer a", "check a"), "module 1", "certified 6", "certified 6", "good")
	isAnswered(t, script("source a fun f() { } fun g() { }", "compile a", "infer a"), "module 2", "certified 12")
	loop := "fun g(n int) { while n > 0 { n = n - 1; } }" // an entry at its head, and one behind it
	isAnswered(t, script("source a "+loop, "compile a", "infer a", "ship a", "infer a"), "module 1", "certified 16", "file 65", "certified 16")
}

func TestP25_1Tune(t *testing.T) {
	isAnswered(t, script("source a", "compile a", "tune a"), "module 0", "tuned 0")
	isAnswered(t, script("source a fun f() int { return 2 + 3; } fun g() { }", "compile a", "list a f", "tune a", "list a f", "run a f", "infer a", "tune a"),
		"module 2", "code 4", "tuned 7", "code 2", "ok 5", "certified 12", "tuned 7")
	// without certificates
	isLast(t, behind("check a", "tune a", "check a", "bare a f", "infer a", "check a", "bare a f"), "good", "tuned 148", "error 1", "error 1", "certified 98", "good", "ok 0")
}

func TestP25_1Ship(t *testing.T) {
	isAnswered(t, script("source a", "compile a", "ship a"), "module 0", "file 13")
	isAnswered(t, script("source a fun f() { }", "compile a", "ship a", "infer a", "ship a", "tune a", "ship a"), "module 1", "file 21", "certified 6", "file 29", "tuned 1", "file 21")
	// the file stays what was shipped
	isLast(t, behind("source a fun f() int { return 7; }", "compile a", "run a f", "load a", "run a f", "check a"), "module 1", "ok 7", "loaded 13", "ok 0", "good")
}

func TestP25_1Turn(t *testing.T) {
	least := []string{"source a fun f() { }", "compile a", "ship a"} // 21 bytes
	of := func(l ...string) string { return script(append(slices.Clone(least), l...)...) }
	for _, at := range []int{0, 1, 20} {
		isLast(t, of(fmt.Sprintf("turn a %d 0", at)), "turned")
		isLast(t, of(fmt.Sprintf("turn a %d 255", at)), "turned")
		for _, b := range []int{-1, -255, -256, 256, 257, 511, 999999999, -999999999} {
			isLast(t, of(fmt.Sprintf("turn a %d %d", at, b), "load a"), "error 5", "loaded 1")
		}
	}
	for _, at := range []int{21, 22, 999999999, -1, -20, -21, -999999999} {
		for _, b := range []int{-1, 0, 1, 255, 256} {
			isLast(t, of(fmt.Sprintf("turn a %d %d", at, b), "load a"), "error 5", "loaded 1")
		}
	}
	isLast(t, of("turn a 0 113", "load a", "turn a 0 112", "load a"), "turned", "error 160", "turned", "loaded 1") // there and back
	isLast(t, of("turn a 20 0", "turn a 0 1", "turn a 21 1", "load a"), "turned", "turned", "error 5", "error 160")
	isLast(t, of("turn a 0 1", "ship a", "load a"), "turned", "file 21", "loaded 1") // a new file
	isLast(t, of("source b fun f() { }", "compile b", "ship b", "turn a 0 1", "load b", "load a"), "turned", "loaded 1", "error 160")
	// the module is not the file
	isLast(t, of("turn a 14 33", "run a f", "ship a", "load a", "run a f"), "turned", "ok 0", "file 21", "loaded 1", "ok 0")
}

// Each byte of a file, turned to each other one: it is not loaded, and what was there stays.
func TestP25_1EachByteTurned(t *testing.T) {
	lines := slices.Clone(ready[:4])
	lines[0] = "source a fun f(n int) int { while n > 0 { n = n - 1; } return n; }"
	file := filed(t, "a", strings.TrimPrefix(lines[0], "source a "), true)
	for at, b := range file {
		text := script(lines...)
		want := []string{"module 1", "certified 16", fmt.Sprint("file ", len(file))}
		for _, c := range []byte{b + 1, b - 1, b ^ 128, 0, 255} {
			if c == b {
				continue
			}
			text += fmt.Sprintf("\nturn a %d %d\nload a\ncheck a\nrun a f 4\nbare a f 4\nmean a f 4", at, c)
			refused := "error 161"
			if at < 4 {
				refused = "error 160"
			}
			want = append(want, "turned", refused, "good", "ok 0", "ok 0", "ok 0")
		}
		isAnswered(t, text+fmt.Sprintf("\nturn a %d %d\nload a\ncheck a", at, b), append(want, "turned", "loaded 1", "good")...)
	}
}

// A file may be of a module of another name: so is the module that is loaded.
func TestP25_1LoadOfAnotherName(t *testing.T) {
	m := assembled(t, api.TTop, "int 5; tell; return")
	m.Name = "another_one"
	file := encoded(t, m)
	isLast(t, script(append(laid(t, "a", file), "load a", "ship a", "infer a", "run a f", "ship a", "load a")...), "loaded 1", fmt.Sprint("file ", len(file)), "certified 6", "ok 0 told 5", fmt.Sprint("file ", len(file)+8), "loaded 1")
}

func TestP25_1Check(t *testing.T) {
	isAnswered(t, script("source a fun f() { }", "compile a", "check a", "infer a", "check a", "check a"), "module 1", "error 1", "certified 6", "good", "good")
	two := func(f, g string) []string { return []string{"source a " + f, "compile a", "infer a", g} }
	isLast(t, script(append(two("fun f() { }", "tune a"), "check a")...), "error 1")
}

func TestP25_1Runs(t *testing.T) {
	for _, x := range []struct{ call, want string }{
		{"f", "ok 0"},
		{"same 4", "ok 4"},
		{"same -4", "ok -4"},
		{"same 0", "ok 0"},
		{"turns 0", "ok 1"},
		{"turns 1", "ok 0"},
		{"eight 1 2 3 4 5 6 7 8", "ok -36"},
		{"eight 999999999 -999999999 0 -1 1 0 0 0", "ok -808348673"},
		{"makes", "ok 2"},
		{"tells 0", "ok 0"},
		{"tells 1", "ok 1 told -7"},
		{"tells 4", "ok 4 told -7 -6 -3 2"},
		{"over 7", "ok 1 told 7"},
		{"over 0", "trap 1 told 0"},
		{"fails", "trap 216 told 1 -2"},
		{"row 999", "ok 999"},
		{"row 1000", "trap 6"},
		{"row -1", "trap 4"},
		{"deep", "trap 7"},
		{"loops", "fuel"},
		{"talks", "fuel told 3 4"},
		{"f 1", "error 151"},
		{"f 0", "error 151"},
		{"same", "error 151"},
		{"same 1 2", "error 151"},
		{"turns 2", "error 151"},
		{"turns -1", "error 151"},
		{"takes", "error 151"},
		{"takes 0", "error 151"},
		{"eight 1 2 3 4 5 6 7", "error 151"},
	} {
		isLast(t, behind("run a "+x.call, "bare a "+x.call, "mean a "+x.call, "tune a", "run a "+x.call), x.want, x.want, x.want, "tuned 148", x.want)
	}
	told := ""
	for i := range 1024 {
		told += fmt.Sprint(" ", i*i-7)
	}
	for _, word := range []string{"run", "bare", "mean"} {
		isLast(t, behind(word+" a tells 1024", word+" a tells 1025"), "ok 1024 told"+told, "trap 8 told"+told)
	}
}

func TestP25_1EachTrap(t *testing.T) {
	head := "record p { x int } record q : p { } "
	for _, x := range []struct{ body, want string }{
		{"tell 1 / 0;", "trap 1"},
		{"tell 1 % 0;", "trap 1"},
		{"var r p = null; tell r.x;", "trap 2"},
		{"var r ints = null; tell len(r);", "trap 2"},
		{"var r ints = new ints(3); tell r[3];", "trap 3"},
		{"var r ints = new ints(3); r[-1] = 1;", "trap 3"},
		{"var r ints = new ints(-1);", "trap 4"},
		{"var r any = new p; var s q = r as q;", "trap 5"},
		{"while true { var r any = new q; }", "trap 6"},
		{"f();", "trap 7"},
		{"while true { tell 0; }", "trap 8 told" + strings.Repeat(" 0", 1024)},
		{"fail 0;", "trap 16"},
		{"fail 200;", "trap 216"},
		{"tell 5; fail 3;", "trap 19 told 5"},
	} {
		isLast(t, script("source a "+head+"fun f() { "+x.body+" }", "compile a", "infer a", "run a f", "bare a f", "mean a f"), x.want, x.want, x.want)
	}
}

// A run's fuel is enough for so many steps, and for none more; the meaning's for so many rules.
func TestP25_1FuelOfARun(t *testing.T) {
	loop := " while n > 0 { n = n - 1; }" // of n rounds: 10 n + 5 steps, 8 n + 4 rules
	source := "source a fun f(n int) { tell 1; tell 2;" + loop + " } fun g(n int) { tell 1; var b bool = !true;" + loop + " } fun h(n int) { tell 1; tell 2;" + loop + " return; }"
	ahead := []string{source, "compile a", "infer a"}
	of := func(l ...string) string { return script(append(slices.Clone(ahead), l...)...) }
	for _, word := range []string{"run", "bare"} {
		isLast(t, of(word+" a f 9999", word+" a g 9999", word+" a f 10000"), "ok 0 told 1 2", "fuel told 1", "fuel told 1 2") // 100000 steps, 100001, 100010
	}
	isLast(t, of("mean a f 12499", "mean a h 12499", "mean a f 12500"), "ok 0 told 1 2", "fuel told 1 2", "fuel told 1 2") // 100000 rules, 100001, 100008
}

func TestP25_1RoomOfARun(t *testing.T) {
	source := "source a record p { x int } fun f(n int) { var r ints = new ints(n); var s p = new p; } fun g(n int) { var r ints = new ints(n); var s ints = new ints(0); }"
	for _, word := range []string{"run", "bare", "mean"} {
		isLast(t, script(source, "compile a", "infer a", word+" a f 997", word+" a f 998", word+" a g 998", word+" a g 999", word+" a g 1000", word+" a f 999999999"), "ok 0", "trap 6", "ok 0", "trap 6", "trap 6", "trap 6")
	}
}

func TestP25_1Stuck(t *testing.T) {
	for _, x := range []struct {
		code, want string
		bytes      int
	}{
		{"add; return", "stuck", 24},
		{"int 5; tell; int -6; tell; pop; return", "stuck told 5 -6", 0},
		{"int 5; tell; bool 1; tell; return", "stuck told 5", 0},
		{"jump 900", "stuck", 0},
		{"nop", "stuck", 0},
		{"load 0; return", "stuck", 0},
		{"int 3; return", "stuck", 0}, // it gives nothing
	} {
		m := assembled(t, api.TTop, x.code)
		lines := append(laid(t, "a", encoded(t, m)), "load a", "run a f", "check a", "bare a f")
		isLast(t, script(lines...), "loaded 1", x.want, "error 1", "error 1")
	}
}

// Of a module with certificates that onepass does not take, bare tells 1, check what onepass does.
func TestP25_1BareOfWhatIsNotGood(t *testing.T) {
	for _, x := range []struct {
		code  string
		proof []byte
		check string
	}{
		{"return", []byte{0x70, 0x76, 1, 1, 0, 0}, "good"},
		{"return", []byte{0x70, 0x76, 1, 1, 0}, "error 2"},
		{"return", []byte{0x70, 0x76, 1, 1, 0, 0, 0}, "error 3"},
		{"return", []byte{0x70, 0x76, 1, 2, 0, 0}, "error 32"},
		{"return", []byte{0x71, 0x76, 1, 1, 0, 0}, "error 64"},
		{"return; return", []byte{0x70, 0x76, 1, 1, 0, 0}, "error 90"},
		{"pop; return", []byte{0x70, 0x76, 1, 1, 0, 0}, "error 30"},
		{"nop", []byte{0x70, 0x76, 1, 1, 0, 0}, "error 51"},
	} {
		m := assembled(t, api.TTop, x.code)
		m.Certs = [][]byte{x.proof}
		want := "error 1"
		if x.check == "good" {
			want = "ok 0"
		}
		isLast(t, script(append(laid(t, "a", encoded(t, m)), "load a", "check a", "bare a f", "bare a f 1")...), "loaded 1", x.check, want, map[bool]string{true: "error 151", false: "error 1"}[x.check == "good"])
	}
}

func TestP25_1List(t *testing.T) {
	for _, x := range []struct{ body, want string }{
		{"", "code 1"},
		{"tell 1;", "code 3"},
		{"while n > 0 { n = n - 1; }", "code 13"}, // with two labels
		{"if n > 0 { } else { }", "code 7"},       // as without
		{"if n > 0 { tell 1; } else { tell 2; }", "code 13"},
		{"tell n; tell n; return;", "code 5"},
	} {
		isLast(t, script("source a fun e() { } fun f(n int) { "+x.body+" } fun g() { tell 1; tell 2; }", "compile a", "list a f", "infer a", "list a f", "list a e", "list a g"), x.want, fmt.Sprint("certified ", certified(t, x.body)), x.want, "code 1", "code 5")
	}
	for text, want := range map[string]string{"jump 1": "error 50", "jump 9": "error 50", "jump 3": "error 50", "nop; unless 2": "error 50", "nop; nop": "code 2", "jump 0": "code 2", "bool 1; unless 2; pop": "code 4"} {
		isLast(t, script(append(laid(t, "a", encoded(t, assembled(t, api.TTop, text))), "load a", "list a f")...), "loaded 1", want)
	}
	m := assembled(t, api.TTop, "nop; nop")
	for code, want := range map[string]string{"\x22": "error 40", "\x16\xff": "error 40", "\x01\x00": "error 2", "\x02\x02": "error 5", "\x16\x16": "code 2"} {
		m.Funcs[0].Code = []byte(code)
		isLast(t, script(append(laid(t, "a", encoded(t, m)), "load a", "list a f")...), "loaded 1", want)
	}
}

// certified is how many bytes the certificates of TestP25_1List's functions have.
func certified(t *testing.T, body string) int {
	t.Helper()
	file := filed(t, "a", "fun e() { } fun f(n int) { "+body+" } fun g() { tell 1; tell 2; }", true)
	bare := filed(t, "a", "fun e() { } fun f(n int) { "+body+" } fun g() { tell 1; tell 2; }", false)
	return len(file) - len(bare) - 3*2
}

// What a call refuses changes nothing: neither source, module nor file.
func TestP25_1RefusedIsNothing(t *testing.T) {
	all := []string{"check a", "run a over 3", "bare a over 3", "list a tells", "ship a", "load a", "infer a", "tune a"}
	want := []string{"good", "ok 2 told 3", "ok 2 told 3", "code 21", "file 454", "loaded 13", "certified 106", "tuned 148"}
	isLast(t, behind(all...), want...)
	isLast(t, behind(append([]string{"source a x", "compile a"}, all...)...), append([]string{"error 110"}, want...)...)
	isLast(t, behind(append([]string{"turn a 0 1", "load a"}, all...)...), append([]string{"turned", "error 160"}, want...)...)
	isLast(t, behind(append([]string{"turn a 454 1", "run a f 1", "bare a f 1", "mean a f 1"}, all...)...), append([]string{"error 5", "error 151", "error 151", "error 151"}, want...)...)
	isLast(t, behind("source a x", "compile a", "mean a f", "load a", "mean a f", "compile a", "run a same 3"), "error 110", "error 110", "loaded 13", "error 110", "error 110", "ok 3")
}

// A module that infer, opt or onepass refuse, with certificates of its own, stays as it was.
func TestP25_1RefusedModuleStays(t *testing.T) {
	m := assembled(t, api.TTop, "int 5; tell; jump 1; return")
	m.Certs = [][]byte{{1, 2, 3}}
	file := encoded(t, m)
	size := fmt.Sprint("file ", len(file))
	isLast(t, script(append(laid(t, "a", file), "load a", "ship a", "infer a", "ship a", "tune a", "ship a", "check a", "ship a", "list a f", "run a f", "load a", "ship a")...),
		"loaded 1", size, "error 80", size, "error 50", size, "error 64", size, "error 50", "stuck told 5", "loaded 1", size)
	if _, _, _, why := infer.Module(m); why != api.ErrOverlap {
		t.Error(why)
	}
}

func TestP25_2Mean(t *testing.T) {
	for _, x := range []struct{ source, want string }{
		{"x", "error 110"},
		{"fun", "error 110"},
		{"fun f() int { }", "error 124"},
		{"fun f() { g(); }", "error 120"},
		{"fun f() { return 1; }", "error 123"},
		{"fun f() int { return true; }", "error 121"},
		{"fun f(n int, n int) { }", "error 20"},
		{"record top { } fun f() { }", "error 6"},
		{"\xff", "error 100"},
		{"fun f() { tell 99999999999; }", "error 101"},
		{"fun f() int { return 4; }", "ok 4"},
		{"fun e() { tell 1; } fun f() { tell 2; }", "ok 0 told 2"},
		{"fun f(n int) { }", "error 151"},
		{"fun f(r ints) { }", "error 151"},
		{"fun f() {" + strings.Repeat(" tell 1;", 900) + " }", "ok 0 told" + strings.Repeat(" 1", 900)}, // too great for gen, not for check
	} {
		isAnswered(t, script("source a "+x.source, "mean a f"), x.want)
		isAnswered(t, script("source a "+x.source, "source b", "mean a f", "mean a f"), x.want, x.want)
	}
	isTrouble(t, script("source a", "mean a f"), "mean", 2, api.ErrThing)
	isTrouble(t, script("source a record f { }", "mean a f"), "mean", 2, api.ErrThing)
	isTrouble(t, script("source a fun g() { }", "mean a f"), "mean", 2, api.ErrThing)
	isAnswered(t, script("source a fun g() { } x", "mean a f"), "error 110") // refused, whatever functions it may have
}

func TestAllEndsOfAllArguments(t *testing.T) {
	texts := []string{"", " ", "\n", "\x00", "\xff\xfe", strings.Repeat(" ", 65536), strings.Repeat("a ", 32768), strings.Repeat("run a f\n", 8192), strings.Repeat("-", 70000), "source a " + strings.Repeat("(", 60000) + "\ncompile a\nmean a f",
		"source a fun f() int { return " + strings.Repeat("-", 60000) + "1; }\ncompile a\nmean a f", "source a fun f() { " + strings.Repeat("{", 60000) + "\ncompile a", "source a " + strings.Repeat("fun f() { } ", 5000) + "\ncompile a"}
	for _, text := range texts {
		isAsTold(t, text)
	}
	d := dice(9)
	for range 3000 {
		b := []byte(behind("run a same 4", "turn a 7 9", "mean a fails", "list a f", "load a", "tune a", "check a"))
		for range 1 + d.Below(4) {
			at := len(runs) + d.Below(len(b)-len(runs))
			b[at] = pick(&d, []byte(" \n\r\t0129-aAfF_~\x00\xff"))
		}
		isAsTold(t, string(b))
	}
}
