package desk_test

import (
	"fmt"
	"slices"
	"strings"
	"testing"

	"proviso/api"
	"proviso/desk"
	"proviso/samples"
)

func TestExamplesOfChapter25(t *testing.T) {
	isAnswered(t, script("source a fun f(n int) int { return n + 1; }", "compile a", "infer a", "check a", "run a f 4", "mean a f 4"), "module 1", "certified 6", "good", "ok 5", "ok 5")
	isTrouble(t, "compile b", "compile", 1, api.ErrThing)
	isTrouble(t, "jump", "jump", 1, api.ErrCommand)
	isAnswered(t, script("source a x", "compile a"), "error 110")
}

func TestP25_1MostBytesOfAScript(t *testing.T) {
	most := 65536
	for _, ahead := range []string{"source a ", "compile b\nsource a ", "jump\n", ""} {
		isTrouble(t, ahead+strings.Repeat("x", most+1-len(ahead)), "", 0, api.ErrLong)
	}
	isTrouble(t, strings.Repeat("\n", most+1), "", 0, api.ErrLong)
	isTrouble(t, strings.Repeat("\n", 1<<22), "", 0, api.ErrLong)
	isAnswered(t, strings.Repeat("\n", most))
	for behind, want := range map[string][]string{"": nil, "\n": nil, "\ncompile a": {"module 0"}, "\ncompile a\n": {"module 0"}} {
		isAnswered(t, "source a //"+strings.Repeat("x", most-11-len(behind))+behind, want...)
	}
	isTrouble(t, strings.Repeat("\n", most-1)+"x", "x", most, api.ErrCommand)
	isTrouble(t, strings.Repeat(" ", most), "", 1, api.ErrCommand)
	isTrouble(t, strings.Repeat("x", most), strings.Repeat("x", most), 1, api.ErrCommand)
}

func TestP25_1AnAnswerForEachLine(t *testing.T) {
	text, want := script(ready[:2]...)+"\nship a", []string{"module 13", "file 322"}
	for i := 0; len(text) < 65500; i++ {
		text += fmt.Sprintf("\nturn a %d 1", i%400)
		want = append(want, map[bool]string{true: "turned", false: "error 5"}[i%400 < 322])
	}
	isAnswered(t, text, want...)
}

func TestP25_1LinesWithoutBytes(t *testing.T) {
	isAnswered(t, "")
	for n := range 5 {
		ends := strings.Repeat("\n", n)
		isAnswered(t, ends)
		isAnswered(t, ends+"source a fun f() { }"+ends)
		isAnswered(t, ends+"source a fun f() { }\n"+ends+"compile a"+ends, "module 1")
		isTrouble(t, ends+"jump"+ends, "jump", n+1, api.ErrCommand)
		isTrouble(t, ends+"source a\n"+ends+"ship a\n", "ship", 2*n+2, api.ErrThing)
		isTrouble(t, "source a\n"+ends+" \n", "", n+2, api.ErrCommand)
	}
}

func TestP25_1WhatIsNoCommand(t *testing.T) {
	words := strings.Fields("jump x Source SOURCE Compile sourc sources compil compiler infe inferr tun tunes shi ships tur turns loa loads chec checks ru runs bar bares mea means lis lists error ok 0 - help quit source,a a f fun module file")
	words = append(words, "", "\t", "\r", "\x00", "\xff", "compile\ta", "\tcompile", "compile\r", "ſource", "compile\u00a0a", strings.Repeat("run", 99))
	for _, w := range words {
		for _, behind := range []string{"", " ", " a", " a f", " a f 1", " a 1 1", "  "} {
			if w+behind != "" {
				isRefused(t, nil, w+behind)
				isRefused(t, ready, w+behind)
			}
		}
	}
}

// wanted are the commands with lines that are right behind ready, and what their words are: N, F a name, A a number.
var wanted = []struct{ word, kinds, right string }{
	{"compile", "N", "compile a"},
	{"infer", "N", "infer a"},
	{"tune", "N", "tune a"},
	{"ship", "N", "ship a"},
	{"turn", "NAA", "turn a 3 7"},
	{"load", "N", "load a"},
	{"check", "N", "check a"},
	{"run", "NF", "run a f"},
	{"run", "NFA", "run a same 4"},
	{"run", "NFAAAAAAAA", "run a eight 1 2 3 4 5 6 7 8"},
	{"bare", "NF", "bare a f"},
	{"bare", "NFA", "bare a same 4"},
	{"bare", "NFAAAAAAAA", "bare a eight 1 2 3 4 5 6 7 8"},
	{"mean", "NF", "mean a f"},
	{"mean", "NFA", "mean a same 4"},
	{"mean", "NFAAAAAAAA", "mean a eight 1 2 3 4 5 6 7 8"},
	{"list", "NF", "list a f"},
}

func TestP25_1WordsOfEachCommand(t *testing.T) {
	for _, x := range wanted {
		if l, err := desk.Run(script(append(slices.Clone(ready), x.right)...)); err != nil || len(l) != 4 || strings.HasPrefix(l[3], "error") {
			t.Fatal(x.right, l, err)
		}
		words := strings.Split(x.right, " ")
		for i := range words {
			spoilt := slices.Clone(words)
			spoilt[i] = ""
			isRefused(t, ready, strings.Join(spoilt, " "))                                    // a word without bytes
			isRefused(t, ready, strings.Join(slices.Insert(slices.Clone(words), i, ""), " ")) // two blanks, or one ahead
		}
		isRefused(t, ready, x.right+" ")
		isRefused(t, ready, x.right+"  ")
		isRefused(t, ready, " "+x.right)
		isRefused(t, ready, x.right+" x")
		isRefused(t, ready, x.right+"\r")
		isRefused(t, ready, x.right+"\t")
		for n := range len(words) {
			if least := map[string]int{"turn": 4, "run": 3, "bare": 3, "mean": 3, "list": 3}[x.word]; n < max(least, 2) {
				if n > 0 {
					isRefused(t, ready, strings.Join(words[:n], " "))
				}
				isRefused(t, ready, strings.Join(words[:n], " ")+" ")
			}
		}
		if len(x.kinds) == 10 || x.kinds[1:] == "" || x.word == "turn" || x.word == "list" { // no more may stand there
			isRefused(t, ready, x.right+" 1")
			isRefused(t, ready, x.right+" a")
			isRefused(t, ready, x.right+" 1 1 1 1 1 1 1 1 1")
		}
	}
}

func TestP25_1WordsOfSource(t *testing.T) {
	for _, l := range []string{"source", "source ", "source  ", "source  a", "source  a x", "source 1", "source 1 x", "source a\t", "source a\tx", "source\ta x", "source a\r", "source _a x", "source a.b x", "source " + strings.Repeat("a", 25), " source a x"} {
		isRefused(t, nil, l)
		isRefused(t, ready, l)
	}
	for _, l := range []string{"source a", "source a ", "source a  ", "source a x", "source a  x ", "source a source a x", "source " + strings.Repeat("a", 24)} {
		isAnswered(t, l)
	}
}

func TestP25_1Names(t *testing.T) {
	long := strings.Repeat("n", 24)
	names := []string{"a", "Z", "a1", "a_", "compile", "source", "run", "fun", "int", "a0123456789_z", long}
	none := []string{"1", "1a", "_", "_a", "-", "-1", "a-b", "a.b", "a,", "ä", "a\x00", "a\t", long + "n", "0", "\xff", "a\xff", "a:"}
	for _, n := range names {
		source := "source " + n + " fun " + long + "(n int) int { return n; }"
		isAnswered(t, script(source, "compile "+n, "infer "+n, "check "+n, "run "+n+" "+long+" 3", "bare "+n+" "+long+" 3", "mean "+n+" "+long+" 3", "list "+n+" "+long, "ship "+n, "turn "+n+" 0 112", "load "+n, "tune "+n),
			"module 1", "certified 6", "good", "ok 3", "ok 3", "ok 3", "code 2", fmt.Sprint("file ", 54+len(n)), "turned", "loaded 1", "tuned 3")
	}
	for _, n := range none {
		for _, x := range wanted {
			words := strings.Split(x.right, " ")
			for i, kind := range x.kinds {
				if kind == 'A' && strings.TrimLeft(n, "-0123456789") == "" && n != "-" {
					continue
				}
				spoilt := slices.Clone(words)
				spoilt[i+1] = n
				isRefused(t, ready, strings.Join(spoilt, " "))
			}
		}
	}
}

func TestP25_1Numbers(t *testing.T) {
	for _, n := range []string{"0", "1", "9", "10", "-1", "-9", "-10", "100", "99999999", "-99999999", "123456789", "999999999", "-999999999", "100000000", "-100000000"} {
		isLast(t, script(append(slices.Clone(ready), "run a same "+n, "bare a same "+n, "mean a same "+n)...), "ok "+n, "ok "+n, "ok "+n)
	}
	none := []string{"00", "01", "-0", "-01", "+1", "+0", "--1", "-", "1000000000", "-1000000000", "2147483647", "-2147483648", "99999999999999999999999999", "0000000001", "-0000000001", "1.0", "1.", ".1", "1e3", "0x1", "1_0", "1a", "a", "a1", "1-", "1,", "١", "1\x00", "\xff", "1\t", "1\r", "true", "'1'"}
	for _, n := range none {
		for _, x := range wanted {
			words := strings.Split(x.right, " ")
			for i, kind := range x.kinds {
				if kind == 'A' {
					spoilt := slices.Clone(words)
					spoilt[i+1] = n
					isRefused(t, ready, strings.Join(spoilt, " "))
				}
			}
		}
	}
	for c := range 256 { // each byte by itself, and behind a digit
		digit := c >= '0' && c <= '9'
		if c == '\n' {
			continue
		}
		if !digit {
			isRefused(t, ready, "run a same "+string([]byte{byte(c)}))
			isRefused(t, ready, "run a same 1"+string([]byte{byte(c)}))
			isRefused(t, ready, "turn a 1 1"+string([]byte{byte(c)}))
		}
		if !digit && c != '-' {
			isRefused(t, ready, "run a same "+string([]byte{byte(c), '1'}))
		}
	}
}

// A command is refused by its words ahead of what it names, whether that is there or not.
func TestP25_1FirstError(t *testing.T) {
	for _, x := range wanted {
		missing := strings.Replace(x.right, " a", " b", 1)
		isTrouble(t, missing, x.word, 1, api.ErrThing)
		isTrouble(t, missing+" ", x.word, 1, api.ErrCommand)
		if len(x.kinds) > 2 {
			isTrouble(t, missing[:len(missing)-1]+"01", x.word, 1, api.ErrCommand)
		}
		isTrouble(t, missing+"\njump", x.word, 1, api.ErrThing) // line by line
		isTrouble(t, "\njump\n"+missing, "jump", 2, api.ErrCommand)
		isTrouble(t, script("source a x", "compile a", missing, "jump"), x.word, 3, api.ErrThing) // what was answered is not told
	}
	isTrouble(t, script("source a x", "run a f 1 1 1 1 1 1 1 1 1"), "run", 2, api.ErrCommand)
	isTrouble(t, script("source a x", "run a f 1 1 1 1 1 1 1 1"), "run", 2, api.ErrThing)
	isTrouble(t, script(append(slices.Clone(ready), "run a gone 1000000000")...), "run", 5, api.ErrCommand)
	isTrouble(t, script(append(slices.Clone(ready), "turn b 0 256")...), "turn", 5, api.ErrThing)
	isTrouble(t, script("source a fun f() { }", "compile a", "bare a g"), "bare", 3, api.ErrThing) // no such function, and no certificates
	isTrouble(t, script(append(slices.Clone(ready), "source a x", "mean a gone", "mean b gone")...), "mean", 7, api.ErrThing)
	isTrouble(t, script(append(slices.Clone(ready), "run a gone 1")...), "run", 5, api.ErrThing) // ahead of ErrArgs
}

func TestP25_1WhatIsNotThere(t *testing.T) {
	source, compiled, shipped := ready[:1], ready[:2], ready
	for _, x := range wanted {
		module := x.word != "mean" && x.word != "compile" && x.word != "turn" && x.word != "load"
		file := x.word == "turn" || x.word == "load"
		other := strings.Replace(x.right, " a", " b", 1)
		isTrouble(t, x.right, x.word, 1, api.ErrThing)
		for _, ahead := range [][]string{source, compiled, shipped} {
			isTrouble(t, script(append(slices.Clone(ahead), other)...), x.word, len(ahead)+1, api.ErrThing)
			isTrouble(t, script(append(slices.Clone(ahead), strings.Replace(x.right, " a", " A", 1))...), x.word, len(ahead)+1, api.ErrThing)
		}
		for i, ahead := range [][]string{source, compiled, shipped} {
			text := script(append(slices.Clone(ahead), x.right)...)
			if module && i == 0 || file && i < 2 {
				isTrouble(t, text, x.word, len(ahead)+1, api.ErrThing)
			} else if _, err := desk.Run(text); err != nil {
				t.Error(text, err)
			}
		}
		broken := []string{"source a x", "compile a"} // no module comes of it
		if module || file {
			isTrouble(t, script(append(broken, x.right)...), x.word, 3, api.ErrThing)
		}
	}
}

func TestP25_1NoSuchFunction(t *testing.T) {
	for _, word := range []string{"run", "bare", "mean", "list"} {
		for _, f := range []string{"g", "F", "ff", "a", "n", "main"} {
			isTrouble(t, script(append(slices.Clone(ready), word+" a "+f)...), word, 5, api.ErrThing)
		}
		isTrouble(t, script("source a", "compile a", word+" a f"), word, 3, api.ErrThing) // without functions
		isTrouble(t, script("source a fun f() { }", "compile a", "source b fun g() { }", "compile b", word+" a g"), word, 5, api.ErrThing)
	}
	// the module's function counts, and of mean the source's
	moved := []string{"source a fun f() int { return 1; }", "compile a", "infer a", "source a fun g() int { return 2; }"}
	isLast(t, script(append(slices.Clone(moved), "run a f", "bare a f", "list a f", "mean a g")...), "ok 1", "ok 1", "code 2", "ok 2")
	isTrouble(t, script(append(slices.Clone(moved), "mean a f")...), "mean", 5, api.ErrThing)
	isTrouble(t, script(append(slices.Clone(moved), "run a g")...), "run", 5, api.ErrThing)
}

func TestAnswersAreNewMemory(t *testing.T) {
	text := script(append(slices.Clone(ready), "run a tells 5", "mean a tells 5", "turn a 3 1", "check a")...)
	first, _ := desk.Run(text)
	second, _ := desk.Run(text)
	kept := slices.Clone(second)
	samples.Overwrite(first, "another one")
	third, err := desk.Run(text)
	if !slices.Equal(second, kept) || !slices.Equal(third, kept) || err != nil {
		t.Error(second, third, err)
	}
}

func TestTwoScriptsKnowNothingOfOneAnother(t *testing.T) {
	for range 2 {
		isTrouble(t, "compile a", "compile", 1, api.ErrThing)
		isTrouble(t, "run a f", "run", 1, api.ErrThing)
		isTrouble(t, "load a", "load", 1, api.ErrThing)
		isLast(t, script(ready...), "file 454")
	}
}
