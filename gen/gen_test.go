package gen_test

import (
	"bytes"
	"errors"
	"strconv"
	"strings"
	"testing"

	"proviso/api"
	"proviso/gen"
	"proviso/samples"
)

// above are records and functions that the statements of the tables below may name.
const above = "record p { x int, y any } record q : p { z q } fun v() { } fun i(a int, b bool) int { return a; } fun r(o any) q { return null; } "

func TestP13_1Expressions(t *testing.T) {
	for _, x := range []struct{ given, lines string }{
		{"n = 7", "int 7; store 0"},
		{"n = 2147483647", "int 2147483647; store 0"},
		{"n = -2147483648", "int -2147483648; store 0"},
		{"n = -1", "int 1; neg; store 0"},
		{"n = -n", "load 0; neg; store 0"},
		{"b = true", "bool 1; store 1"},
		{"b = false", "bool 0; store 1"},
		{"o = null", "null; store 2"},
		{"o = s", "load 3; store 2"},
		{"b = !b", "load 1; not; store 1"},
		{"n = n * 2", "load 0; int 2; mul; store 0"},
		{"n = n / 2", "load 0; int 2; div; store 0"},
		{"n = n % 2", "load 0; int 2; rem; store 0"},
		{"n = n + 2", "load 0; int 2; add; store 0"},
		{"n = 1 - n - 2", "int 1; load 0; sub; int 2; sub; store 0"},
		{"n = 1 - (n - 2)", "int 1; load 0; int 2; sub; sub; store 0"},
		{"b = n < 1", "load 0; int 1; less; store 1"},
		{"b = n > 1", "load 0; int 1; swap; less; store 1"},
		{"b = n <= 1", "load 0; int 1; swap; less; not; store 1"},
		{"b = n >= 1", "load 0; int 1; less; not; store 1"},
		{"b = n == 1", "load 0; int 1; same; store 1"},
		{"b = n != 1", "load 0; int 1; same; not; store 1"},
		{"b = b == true", "load 1; bool 1; same; store 1"},
		{"b = b != true", "load 1; bool 1; same; not; store 1"},
		{"b = o == s", "load 2; load 3; is; store 1"},
		{"b = o != s", "load 2; load 3; is; not; store 1"},
		{"b = null == null", "null; null; is; store 1"},
		{"b = s == null", "load 3; null; is; store 1"},
		{"b = t != null", "load 4; null; is; not; store 1"},
		{"n = i(n + 1, b)", "load 0; int 1; add; load 1; call 1; store 0"},
		{"t = r(s)", "load 3; call 2; store 4"},
		{"t = new q", "new 1; store 4"},
		{"s = new ints(n)", "load 0; make; store 3"},
		{"n = t.x", "load 4; get 1 0; store 0"},
		{"o = u.y", "load 5; get 0 1; store 2"},
		{"t = t.z.z", "load 4; get 1 2; get 1 2; store 4"},
		{"n = s[n]", "load 3; load 0; at; store 0"},
		{"n = len(s)", "load 3; len; store 0"},
		{"t = o as q", "load 2; cast 1; store 4"},
		{"u = t as p", "load 4; cast 0; store 5"},
		{"b = o is q", "load 2; test 1; store 1"},
		{"b = null is p", "null; test 0; store 1"},
	} {
		isCode(t, above+"fun k(n int, b bool, o any, s ints, t q, u p) { "+x.given+"; }", x.lines+"; return")
	}
}

func TestP13_1AndOr(t *testing.T) {
	const head = "fun k(a bool, b bool, c bool) bool { return "
	for _, x := range []struct{ given, lines string }{
		{"a && b", "load 0; unless 10; load 1; jump 12; bool 0; return"},
		{"a || b", "load 0; unless 10; bool 1; jump 12; load 1; return"},
		{"a && b && c", "load 0; unless 10; load 1; jump 12; bool 0; unless 20; load 2; jump 22; bool 0; return"},
		{"a && (b && c)", "load 0; unless 20; load 1; unless 15; load 2; jump 17; bool 0; jump 22; bool 0; return"},
		{"a || b && c", "load 0; unless 10; bool 1; jump 22; load 1; unless 20; load 2; jump 22; bool 0; return"},
		{"!(a || b)", "load 0; unless 10; bool 1; jump 12; load 1; not; return"},
	} {
		isCode(t, head+x.given+"; }", x.lines)
	}
}

func TestP13_1Statements(t *testing.T) {
	for _, x := range []struct{ given, lines string }{
		{"", "return"},
		{"var a int = n; var c any = s; a = 2;", "load 0; store 6; load 3; store 7; int 2; store 6; return"},
		{"t.x = n;", "load 4; load 0; put 1 0; return"},
		{"u.y = t.z;", "load 5; load 4; get 1 2; put 0 1; return"},
		{"t.z.x = 1;", "load 4; get 1 2; int 1; put 1 0; return"},
		{"r(o).y = null;", "load 2; call 2; null; put 1 1; return"},
		{"s[n] = 1;", "load 3; load 0; int 1; set; return"},
		{"s[s[n]] = s[0];", "load 3; load 3; load 0; at; load 3; int 0; at; set; return"},
		{"if b { n = 1; }", "load 1; unless 12; int 1; store 0; return"},
		{"if b { }", "load 1; unless 5; return"},
		{"if b { } else { }", "load 1; unless 5; return"},
		{"if b { return; }", "load 1; unless 6; return; return"},
		{"if b { return; } else { }", "load 1; unless 6; return; return"},
		{"if b { tell 1; } else { tell 2; }", "load 1; unless 14; int 1; tell; jump 20; int 2; tell; return"},
		{"if b { } else { tell 2; }", "load 1; unless 8; jump 14; int 2; tell; return"},
		{"if b { return; } else { tell 2; }", "load 1; unless 6; return; int 2; tell; return"},
		{"if b { fail 9; } else { tell 2; }", "load 1; unless 7; trap 9; int 2; tell; return"},
		{"if b { tell 2; } else { return; }", "load 1; unless 14; int 2; tell; jump 15; return; return"},
		{"if b { return; } else { return; }", "load 1; unless 6; return; return"},
		{"if b { fail 0; } else if !b { fail 200; } else { fail 2; }", "load 1; unless 7; trap 0; load 1; not; unless 15; trap 200; trap 2"},
		{"if b { if b { return; } } else { return; }", "load 1; unless 14; load 1; unless 11; return; jump 15; return; return"},
		{"if b { return; tell 1; } else { tell 2; }", "load 1; unless 15; return; int 1; tell; jump 21; int 2; tell; return"},
		{"while b { }", "load 1; unless 8; jump 0; return"},
		{"tell 1; while b { tell 2; }", "int 1; tell; load 1; unless 20; int 2; tell; jump 6; return"},
		{"while b { return; }", "load 1; unless 6; return; return"},
		{"while b { fail 3; }", "load 1; unless 7; trap 3; return"},
		{"while b { break; }", "load 1; unless 11; jump 11; jump 0; return"},
		{"while b { continue; }", "load 1; unless 11; jump 0; jump 0; return"},
		{"while b { if b { break; } else { continue; } }", "load 1; unless 22; load 1; unless 16; jump 22; jump 19; jump 0; jump 0; return"},
		{"while b { while !b { break; } continue; break; }", "load 1; unless 26; load 1; not; unless 17; jump 17; jump 5; jump 0; jump 26; jump 0; return"},
		{"return;", "return"},
		{"return; tell 1;", "return; int 1; tell; return"},
		{"return; return;", "return; return"},
		{"tell n;", "load 0; tell; return"},
		{"fail 0;", "trap 0"},
		{"fail 200;", "trap 200"},
		{"v();", "call 0; return"},
		{"i(1, b);", "int 1; load 1; call 1; pop; return"},
		{"r(r(null));", "null; call 2; call 2; pop; return"},
	} {
		isCode(t, above+"fun k(n int, b bool, o any, s ints, t q, u p) { "+x.given+" }", x.lines)
	}
	isCode(t, "fun f(n int) int { return n; }", "load 0; return")
	isCode(t, "fun f() any { return null; return f(); }", "null; return; call 0; return")
	isCode(t, "fun f() int { if true { return 1; } else { fail 1; } }", "bool 1; unless 11; int 1; return; trap 1")
}

func TestP13_1TheModule(t *testing.T) {
	m := good(t, "fun f(a q, n int) p { var b bool = true; if b { var c int = n; } return a; } record p { x int, y q } record q : p { z any } fun g() { }")
	want := api.Module{
		Name: "m",
		Classes: []api.Class{
			{Name: "p", Parent: -1, Fields: []api.Field{{Name: "x", Type: api.TInt}, {Name: "y", Type: api.TClass + 1}}},
			{Name: "q", Parent: 0, Fields: []api.Field{{Name: "z", Type: api.TAny}}},
		},
		Funcs: []api.Func{
			{Name: "f", Sig: api.Sig{Params: []api.Type{api.TClass + 1, api.TInt}, Result: api.TClass}, Locals: 4, Code: m.Funcs[0].Code},
			{Name: "g", Code: []byte{api.OpReturn}},
		},
	}
	if show(m) != show(want) || m.Certs != nil {
		t.Errorf("%+v", m)
	}
	if m := good(t, "record p { }"); m.Name != "m" || len(m.Classes) != 1 || len(m.Funcs)+len(m.Certs) > 0 {
		t.Error(m)
	}
	for _, src := range []string{"", " \n", "// nothing"} {
		if m := good(t, src); show(m) != show(api.Module{Name: "m"}) {
			t.Error(src, m)
		}
	}
	for _, p := range []api.Program{{}, {Records: []api.Record{}, Funs: []api.Fun{}}} {
		if m, err := gen.Gen("empty", p); err != nil || show(m) != show(api.Module{Name: "empty"}) {
			t.Error(m, err)
		}
	}
}

func TestP13_1HeldAgainstItsWords(t *testing.T) {
	d := dice(1)
	for i := range 3000 {
		if f := isMeant(t, samples.Source(&d, 1+i%14)); f != (api.Fault{}) {
			t.Fatal(f)
		}
	}
}

func TestP13_2TextsThatMayBeRefused(t *testing.T) {
	d, came := dice(2), map[api.Errno]int{}
	for i := range 6000 {
		came[isMeant(t, turned(&d, samples.Source(&d, 1+i%5))).Why]++
	}
	for _, why := range []api.Errno{api.OK, api.ErrToken, api.ErrMust, api.ErrUnknown, api.ErrTwice, api.ErrParent} {
		if came[why] < 20 {
			t.Error(why, "hardly comes", came)
		}
	}
}

func TestP13_1Names(t *testing.T) {
	const src = "fun f() { @"
	for _, name := range []string{"", "1", "_", "_a", "a-b", "a b", " a", "a ", "é", "a\x00", strings.Repeat("n", 25), strings.Repeat("n", 1<<16)} {
		for _, text := range []string{"", "fun f() { }", src, "fun f() { break; }", strings.Repeat(" ", 1<<16+1)} {
			m, err := gen.Compile(name, text)
			if f := faultOf(t, m, err); f != (api.Fault{Why: api.ErrName}) {
				t.Errorf("%q: %v", name, f)
			}
		}
		for _, p := range []api.Program{{}, parsed(t, "fun f() { break; }"), {Funs: []api.Fun{{Body: []api.Stmt{{Op: 99}}}}}} {
			m, err := gen.Gen(name, p)
			if f := faultOf(t, m, err); f != (api.Fault{Why: api.ErrName}) {
				t.Errorf("%q: %v", name, f)
			}
		}
	}
	for _, name := range []string{"a", "Z", "a1", "a_", "record", "int", "top", strings.Repeat("n", 24)} {
		m, err := gen.Compile(name, "fun f() { }")
		if err != nil || m.Name != name {
			t.Error(name, m, err)
		}
	}
}

func TestP13_1FaultsOfCheck(t *testing.T) {
	for src, why := range map[string]api.Errno{
		"fun f() { @x = 1; }":           api.ErrUnknown,
		"fun f() { tell @true; }":       api.ErrMust,
		"fun f(n int) { @f(); }":        api.ErrCount,
		"fun f() { @break; }":           api.ErrPlace,
		"fun @f() int { }":              api.ErrEnd,
		"fun f() { @fail 201; }":        api.ErrRange,
		"fun f() { tell @2147483648; }": api.ErrRange,
		"fun f() { } fun @f() { }":      api.ErrTwice,
		"record @p : q { }":             api.ErrParent,
		"record p { x int, @x int }":    api.ErrTwice,
		"record p { @x gone }":          api.ErrUnknown,
		"record @top { }":               api.ErrName, // no table may have it
	} {
		isFault(t, src, why)
	}
	most := ""
	for i := range 64 {
		most += "fun f" + strconv.Itoa(i) + "() { } "
	}
	if m := good(t, most); len(m.Funcs) != 64 {
		t.Error(len(m.Funcs))
	}
	isFault(t, most+"fun @g() { }", api.ErrMany)
}

func TestP13_2FaultsOfTexts(t *testing.T) {
	for src, why := range map[string]api.Errno{
		"fun f() { @# }":                                      api.ErrByte,
		"fun f() { tell @12a; }":                              api.ErrNumber,
		"fun @" + strings.Repeat("f", 25) + "() { }":          api.ErrName,
		"@" + strings.Repeat(" ", 1<<16+1):                    api.ErrLong,
		strings.Repeat("fun f() { } ", 2730) + "fun f() @{ }": api.ErrLong, // more than MaxTokens
		"fun f() { 1@; }":                                     api.ErrToken,
		"fun f(@":                                             api.ErrToken,
		"@f":                                                  api.ErrToken,
		"fun f() { break; } fun@":                             api.ErrToken, // all of the text is read ahead of check
		"fun f() { tell " + strings.Repeat("(", 63) + "@(1 ": api.ErrDeep,
	} {
		isFault(t, src, why)
	}
}

func TestExamplesOfChapter13(t *testing.T) {
	for src, want := range map[string]string{
		"fun f(n int) int { return n + 1; }":            "load 0; int 1; add; return",
		"fun g(n int) { while n > 0 { n = n - 1; } }":   "load 0; int 0; swap; less; unless 25; load 0; int 1; sub; store 0; jump 0; return",
		"fun h(a bool, b bool) bool { return a && b; }": "load 0; unless 10; load 1; jump 12; bool 0; return",
	} {
		isCode(t, src, want)
	}
	if b := good(t, "fun f(n int) int { return n + 1; }").Funcs[0].Code; !bytes.Equal(b, []byte{4, 0, 1, 0, 0, 0, 1, 9, 0x16}) {
		t.Errorf("% x", b)
	}
}

func TestAFaultIsAValue(t *testing.T) {
	deep := "fun f() { tell " + strings.Repeat("1 + (", 24) + "1" + strings.Repeat(")", 24) + "; }"
	for src, why := range map[string]api.Errno{deep: api.ErrSize, "fun f() { break; }": api.ErrPlace, "f": api.ErrToken} {
		_, err := gen.Compile("m", src)
		for n := api.Errno(0); n < 300; n++ {
			if errors.Is(err, n) != (n == why) {
				t.Error(src, n, err)
			}
		}
		var f api.Fault
		if !errors.As(err, &f) || f.Why != why {
			t.Error(err)
		}
	}
}
