package desk_test

import (
	"fmt"
	"slices"
	"strings"
	"sync"
	"testing"

	"proviso/api"
	"proviso/desk"
	"proviso/gen"
	"proviso/samples"
)

// written is a source text in one line, and its functions.
func written(d *dice) (string, []api.Func) {
	for {
		text := line(samples.Source(d, 6))
		if m, err := gen.Compile("a", text); err == nil && len(m.Funcs) > 0 {
			return text, m.Funcs
		}
	}
}

// called is a function's name, and arguments that it takes, if there are any, of at most nine digits.
func called(d *dice, f api.Func) string {
	text := f.Name
	for _, n := range samples.Args(d, f.Sig) {
		text += fmt.Sprint(" ", n%1000000000)
	}
	return text
}

func kind(answer string) string {
	word, _, _ := strings.Cut(answer, " ")
	return word
}

// played is what a script answers.
func played(t *testing.T, l ...string) []string {
	t.Helper()
	answers, err := desk.Run(script(l...))
	if err != nil {
		t.Fatal(end(script(l...)), err)
	}
	return answers
}

func TestP25_3WhatCompilesIsGood(t *testing.T) {
	d := dice(1)
	for range 600 {
		source, funcs := written(&d)
		l := played(t, "source a "+source, "compile a", "infer a", "check a")
		if l[0] != fmt.Sprint("module ", len(funcs)) || kind(l[1]) != "certified" || l[2] != "good" {
			t.Fatal(source, l)
		}
	}
}

// Behind ship and load all answers are as they were ahead.
func TestP25_4ShippedAndLoaded(t *testing.T) {
	d := dice(2)
	for range 300 {
		source, funcs := written(&d)
		asks := []string{"check a", "ship a"}
		for _, f := range funcs {
			c := called(&d, f)
			asks = append(asks, "run a "+c, "bare a "+c, "list a "+f.Name)
		}
		ahead := []string{"source a " + source, "compile a"}
		for range d.Below(3) {
			ahead = append(ahead, pick(&d, []string{"infer a", "tune a", "infer a"}))
		}
		lines := append(slices.Concat(ahead, asks, []string{"ship a", "compile a", "load a"}), asks...)
		l := played(t, append(lines, "infer a", "tune a")...)
		first := l[len(ahead)-1:][:len(asks)]
		second := l[len(l)-2-len(asks):][:len(asks)]
		if !slices.Equal(first, second) || l[len(l)-3-len(asks)] != fmt.Sprint("loaded ", len(funcs)) {
			t.Fatal(source, first, second)
		}
	}
}

func TestP25_5RunMeanAndBare(t *testing.T) {
	d, seen := dice(3), came{}
	for range 1000 {
		source, funcs := written(&d)
		lines := []string{"source a " + source, "compile a", "infer a", "check a"}
		for _, f := range funcs {
			c := called(&d, f)
			lines = append(lines, "run a "+c, "mean a "+c, "bare a "+c)
		}
		l := played(t, lines...)
		for i := 3; i < len(l); i += 3 {
			run, mean, bare := l[i], l[i+1], l[i+2]
			if l[2] != "good" || run != bare || kind(run) == "stuck" {
				t.Fatal(source, lines[i+1], run, bare)
			}
			if kind(run) != "fuel" && kind(mean) != "fuel" && run != mean {
				t.Fatal(source, lines[i+1], run, mean)
			}
			seen[kind(run)]++
			seen["mean "+kind(mean)]++
			if strings.Contains(run, "told") {
				seen["told"]++
			}
		}
	}
	seen.isMore(t, 20, "ok", "trap", "fuel", "error", "told", "mean ok", "mean trap", "mean fuel", "mean error")
}

func TestP25_6TunedItAnswersTheSame(t *testing.T) {
	d, seen := dice(4), came{}
	for range 1000 {
		source, funcs := written(&d)
		lines := []string{"source a " + source, "compile a", "infer a"}
		var calls []string
		for _, f := range funcs {
			calls = append(calls, "run a "+called(&d, f))
		}
		lines = append(append(lines, calls...), "tune a", "infer a", "check a")
		l := played(t, append(lines, calls...)...)
		first, second := l[2:][:len(calls)], l[len(l)-len(calls):]
		if l[len(l)-len(calls)-1] != "good" {
			t.Fatal(source, l)
		}
		for i := range calls {
			if kind(first[i]) != "fuel" && first[i] != second[i] || kind(second[i]) == "stuck" {
				t.Fatal(source, calls[i], first[i], second[i])
			}
			seen[kind(first[i])]++
		}
	}
	seen.isMore(t, 20, "ok", "trap", "fuel", "error")
	loop := "fun f(n int) int { while n > 1 - 1 { n = n - (3 - 2); } return n; }" // 14 steps a round, tuned 10
	isAnswered(t, script("source a "+loop, "compile a", "run a f 9000", "tune a", "infer a", "run a f 9000"), "module 1", "fuel", "tuned 28", "certified 16", "ok 0")
}

// Modules from whomever: where check answers good, bare answers as run, and neither is stuck (P1, P10).
func TestP25_5WhatIsLoadedFromWhomever(t *testing.T) {
	d, seen := dice(5), came{}
	for range 700 {
		file := samples.File(&d)
		if len(file) < 21 || len(file) > 1200 {
			continue
		}
		lines := append(laid(t, "a", file), "load a")
		l := played(t, lines...)
		if kind(l[len(l)-1]) != "loaded" {
			t.Fatal(l[len(l)-1])
		}
		var calls []string
		for fn := range 4 {
			if _, err := desk.Run(script(append(lines, fmt.Sprintf("list a f%d", fn))...)); err == nil {
				calls = append(calls, strings.TrimSpace(fmt.Sprintf("a f%d%s", fn, strings.Repeat(" 1", d.Below(4)))))
			}
		}
		asks := []string{"check a"}
		for _, c := range calls {
			asks = append(asks, "run "+c, "bare "+c)
		}
		l = played(t, append(lines, asks...)...)
		l = l[len(l)-len(asks):]
		seen[l[0]]++
		for i := 1; i < len(l); i += 2 {
			if l[0] == "good" && (l[i] != l[i+1] || kind(l[i]) == "stuck") || l[0] != "good" && l[i+1] != "error 1" {
				t.Fatal(asks[i], l[0], l[i], l[i+1])
			}
			seen[kind(l[i])]++
		}
	}
	seen.isMore(t, 20, "good", "ok", "trap", "error", "stuck")
	if seen["good"] > 600 {
		t.Error("hardly one is refused", seen)
	}
}

// Example 10 of the whole: with one byte of the file turned it is refused; what is there keeps its promises.
func TestExample10OfTheWhole(t *testing.T) {
	d := dice(6)
	for range 200 {
		source, funcs := written(&d)
		c := called(&d, pick(&d, funcs))
		ahead := []string{"source a " + source, "compile a", "infer a", "ship a", "check a", "run a " + c}
		l := played(t, ahead...)
		var size int
		fmt.Sscanf(l[2], "file %d", &size)
		behind := []string{fmt.Sprintf("turn a %d %d", d.Below(size), d.Below(256)), "load a", "check a", "run a " + c, "bare a " + c}
		m := played(t, append(ahead, behind...)...)
		if m[5] != "turned" || kind(m[6]) != "error" && kind(m[6]) != "loaded" || m[7] != "good" || m[8] != l[4] || m[9] != l[4] {
			t.Fatal(source, l, m)
		}
	}
}

// author writes scripts as the dice fall; most of them without trouble.
type author struct {
	d       *dice
	sources []string
	bad     bool   // there may be trouble in it
	now     *model // what the lines so far come to
	lines   []string
}

func (a *author) name() string { return pick(a.d, []string{"a", "a", "a", "b", "longer_name_1"}) }

// call is a function that the module of a name may have, with numbers that it may take.
func (a *author) call(name string) string {
	if m := a.now.modules[name]; len(m.Funcs) > 0 && a.d.Below(8) > 0 {
		return called(a.d, pick(a.d, m.Funcs))
	}
	text := pick(a.d, []string{"f", "f", "g", "f0"})
	for range pick(a.d, []int{0, 0, 1, 1, 2, 8}) {
		text += fmt.Sprint(" ", a.number())
	}
	return text
}

func (a *author) number() int {
	return pick(a.d, []int{0, 1, 2, 3, 7, -1, 20, 255, 256, 999999999, -999999999, a.d.Below(60), a.d.Below(256)})
}

// put puts a line behind the others; one that is trouble, where there may be some.
func (a *author) put(text string) {
	word, _, _ := strings.Cut(text, " ")
	if _, why := a.now.line(word, text); why == api.OK || a.bad && a.d.Below(10) == 0 {
		a.lines = append(a.lines, text)
	}
}

// command is a line, all of whose words are right.
func (a *author) command() string {
	d := a.d
	n := a.name()
	switch d.Below(16) {
	case 0:
		return "source " + n + pick(d, []string{" ", "  "}) + pick(d, a.sources)
	case 1, 2:
		return "compile " + n
	case 3, 4:
		return "infer " + n
	case 5:
		return "tune " + n
	case 6, 7:
		return "ship " + n
	case 8:
		return fmt.Sprintf("turn %s %d %d", n, a.number(), a.number())
	case 9, 10:
		return "load " + n
	case 11:
		return "check " + n
	case 12:
		return "list " + n + " " + kind(a.call(n))
	}
	return pick(d, []string{"run", "bare", "mean"}) + " " + n + " " + a.call(n)
}

// bent is a line with something in it that may be wrong.
func (a *author) bent(text string) string {
	d := a.d
	words := strings.Split(text, " ")
	at := d.Below(min(len(words), 4))
	switch d.Below(7) {
	case 0:
		words = slices.Insert(words, at, "")
	case 1:
		words = slices.Delete(words, at, at+1)
	case 2:
		words = append(words, "")
	case 3:
		words[at] = pick(d, []string{"01", "-0", "1234567890", "123456789", "+1", "x", "_x", "9x", strings.Repeat("x", 25), "jump", "source"})
	case 4:
		words = append(words, pick(d, []string{"1", "x", "-", "1 1 1 1 1 1 1 1 1"}))
	case 5:
		words[at] += pick(d, []string{"\t", "\r", "\x00", "é", "0", "_"})
	default:
		words = slices.Insert(words, at, words[at])
	}
	return strings.Join(words, " ")
}

// some is a script as the dice fall, out of such sources.
func some(d *dice, sources []string) string {
	a := author{d: d, sources: sources, bad: d.Below(3) == 0, now: newModel()}
	if d.Below(4) > 0 {
		a.put("source a " + pick(d, sources))
		a.put("compile a")
		a.put(pick(d, []string{"ship a", "infer a"}))
	}
	for range 5 + d.Below(50) {
		text := a.command()
		if d.Below(5) == 0 {
			text = a.bent(text)
		}
		a.put(text)
		if d.Below(20) == 0 {
			a.lines = append(a.lines, "")
		}
	}
	return script(a.lines...)
}

func TestP25_1HeldAgainstTheWords(t *testing.T) {
	d, seen := dice(7), came{}
	sources := []string{"", "", "x", "fun f() { }", "fun f() { fail 3; }", "fun f() int { return 2 + 3; }", "fun f(n int) int { return n + 1; } fun g() { f(3); }", runs, runs, "fun f() { g(); }", "fun f(n int) { while n > 0 { tell n; n = n - 1; } }", "record top { }", "fun f() { while true { } }", "\xff", " // nothing"}
	for range 1500 {
		if d.Below(20) == 0 {
			sources[0], _ = written(&d)
		}
		l, err := isAsTold(t, some(&d, sources))
		if err != nil {
			seen[fmt.Sprint("trouble ", int(err.(api.Trouble).Fault.Why))]++
			continue
		}
		for _, answer := range l {
			seen[kind(answer)]++
			if kind(answer) == "error" {
				seen[answer]++
			}
		}
	}
	seen.isMore(t, 100, "module", "certified", "tuned", "file", "turned", "loaded", "good", "ok", "trap", "fuel", "code", "error 1", "error 5", "error 151")
	seen.isMore(t, 10, "error 110", "error 120", "error 160", "error 161", "trouble 250", "trouble 251")
}

// Every line of up to four words out of some.
func TestP25_1EveryShortLine(t *testing.T) {
	words := []string{"run", "turn", "source", "check", "a", "f", "1", "01", ""}
	lines, seen := []string{""}, came{}
	for range 4 {
		var longer []string
		for _, l := range lines {
			for _, w := range words {
				longer = append(longer, strings.TrimPrefix(l+" "+w, " "))
			}
		}
		lines = longer
		for _, l := range lines {
			answers, err := isAsTold(t, script("source a fun f(n int) { }", "compile a", "ship a", l, "list a f"))
			if err == nil {
				seen[fmt.Sprint(answers[2:])]++
			} else {
				seen["trouble"]++
			}
		}
	}
	seen.isMore(t, 1, "[error 1 code 1]", "[ok 0 code 1]", "[error 151 code 1]", "[turned code 1]", "[code 1]")
	seen.isMore(t, 5000, "trouble")
}

// A module that was laid down byte by byte, with each command there is, against the chapter told over again.
func TestP25_1HeldAgainstTheWordsOfWhatIsLoaded(t *testing.T) {
	d, seen := dice(8), came{}
	for range 400 {
		file := samples.File(&d)
		if len(file) < 21 || len(file) > 1200 {
			continue
		}
		l := append(laid(t, "a", file), "load a")
		for range 8 {
			l = append(l, pick(&d, []string{"run a f0", "run a f0 1", "run a f0 1 1", "bare a f0", "list a f0", "check a", "infer a", "tune a", "ship a", "load a"}))
		}
		answers, err := isAsTold(t, script(l...))
		if err != nil {
			seen["no function"]++
			continue
		}
		for _, answer := range answers {
			seen[kind(answer)]++
		}
	}
	seen.isMore(t, 20, "loaded", "stuck", "ok", "good", "error", "certified", "tuned", "file", "code")
}

func TestTheSameAgain(t *testing.T) {
	play := func() string {
		d, text := dice(10), ""
		for range 100 {
			l, err := desk.Run(some(&d, []string{runs, "fun f() { }"}))
			text += fmt.Sprint(l, err)
		}
		return text
	}
	want := play()
	var all sync.WaitGroup
	for range 8 { // at the same time, too
		all.Go(func() {
			if play() != want {
				t.Error("another one")
			}
		})
	}
	all.Wait()
}
