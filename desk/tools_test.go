package desk_test

import (
	"errors"
	"fmt"
	"slices"
	"strings"
	"testing"

	"proviso/api"
	"proviso/desk"
	"proviso/gen"
	"proviso/infer"
	"proviso/module"
	"proviso/samples"
)

type dice = samples.Dice

func pick[T any](d *dice, l []T) T { return l[d.Below(len(l))] }

func script(l ...string) string { return strings.Join(l, "\n") }

// end is the end of a script, for a test to tell which one it was.
func end(text string) string { return fmt.Sprintf("%q", text[max(0, len(text)-150):]) }

// isAnswered holds a script to what it answers.
func isAnswered(t *testing.T, text string, want ...string) {
	t.Helper()
	if l, err := desk.Run(text); err != nil || !slices.Equal(l, want) {
		t.Errorf("%s: %.200q, %v; wanted %.200q", end(text), l, err, want)
	}
}

// isLast holds a script to the last ones of its answers.
func isLast(t *testing.T, text string, want ...string) {
	t.Helper()
	if l, err := desk.Run(text); err != nil || len(l) < len(want) || !slices.Equal(l[len(l)-len(want):], want) {
		t.Errorf("%s: %.200q, %v; wanted %.200q last", end(text), l, err, want)
	}
}

// isTrouble holds a script to its trouble: a value in which that number is found, and no other one, and the place.
func isTrouble(t *testing.T, text, in string, line int, why api.Errno) {
	t.Helper()
	l, err := desk.Run(text)
	if got, is := err.(api.Trouble); len(l) > 0 || !is || got != (api.Trouble{In: in, Fault: api.Fault{At: line, Why: why}}) {
		t.Errorf("%s: %.100q, %.100v; wanted %.50q: %d at %d", end(text), l, err, in, why, line)
		return
	}
	for n := range api.Errno(300) {
		if errors.Is(err, n) != (n == why) {
			t.Errorf("%s: %d is found, or %d is not", end(text), n, why)
		}
	}
	var f api.Fault
	if !errors.As(err, &f) || f.At != line {
		t.Errorf("%s: no place", end(text))
	}
}

// isRefused holds a line behind others, which are right, to ErrCommand.
func isRefused(t *testing.T, ahead []string, line string) {
	t.Helper()
	word, _, _ := strings.Cut(line, " ")
	isTrouble(t, script(append(slices.Clone(ahead), line)...), word, len(ahead)+1, api.ErrCommand)
}

// ready lays a source, a module with its certificates and a file a down, with functions for each way in which a run may end.
var ready = []string{
	"source a " + runs,
	"compile a",
	"infer a",
	"ship a",
}

const runs = "fun f() { }" +
	" fun same(n int) int { return n; }" +
	" fun turns(b bool) bool { return !b; }" +
	" fun eight(a int, b int, c int, d int, e int, f int, g int, h int) int { return a * b - c * d + e * f - g * h; }" +
	" fun makes() any { var a ints = new ints(2); return new ints(1); }" +
	" fun tells(n int) int { var i int = 0; while i < n { tell i * i - 7; i = i + 1; } return n; }" +
	" fun over(n int) int { tell n; return 7 / n; }" +
	" fun fails() { tell 1; tell -2; fail 200; }" +
	" fun row(n int) int { return len(new ints(n)); }" +
	" fun takes(a ints) int { return 3; }" +
	" fun deep() { deep(); }" +
	" fun loops() { while true { } }" +
	" fun talks() { tell 3; tell 4; while true { } }"

// filed is the file that ship makes of a source text.
func filed(t *testing.T, name, source string, certified bool) []byte {
	t.Helper()
	m, err := gen.Compile(name, source)
	if err != nil {
		t.Fatal(err)
	}
	if certified {
		m, _, _, _ = infer.Module(m)
	}
	b, why := module.Encode(m)
	if why != api.OK {
		t.Fatal(why)
	}
	return b
}

// padded is a source text whose file, without certificates, has n bytes.
func padded(t *testing.T, name string, n int) string {
	t.Helper()
	of := func(more int) string {
		return "fun " + strings.Repeat("f", 1+more%6) + "() { " + strings.Repeat("tell 1; ", more/6) + "}"
	}
	source := of(n - len(filed(t, name, of(0), false)))
	if got := len(filed(t, name, source, false)); got != n {
		t.Fatal(got, n)
	}
	return source
}

// laid are lines that lay a file down, whatever its bytes are: one of its length is shipped, and turned byte by byte.
func laid(t *testing.T, name string, file []byte) []string {
	t.Helper()
	source := padded(t, name, len(file))
	l := []string{"source " + name + " " + source, "compile " + name, "ship " + name}
	for at, b := range filed(t, name, source, false) {
		if b != file[at] {
			l = append(l, fmt.Sprintf("turn %s %d %d", name, at, file[at]))
		}
	}
	return l
}

// encoded is a module's file.
func encoded(t *testing.T, m api.Module) []byte {
	t.Helper()
	b, why := module.Encode(m)
	if why != api.OK {
		t.Fatal(why)
	}
	return b
}

// assembled is a module a with a function f without parameters, of such code.
func assembled(t *testing.T, result api.Type, text string) api.Module {
	t.Helper()
	b, is := samples.Assembled(text)
	if !is {
		t.Fatal(text)
	}
	return api.Module{Name: "a", Funcs: []api.Func{{Name: "f", Sig: api.Sig{Result: result}, Locals: 1, Code: b}}}
}

// line is a text in one line.
func line(text string) string { return strings.ReplaceAll(text, "\n", " ") }

// came counts what came of something, for a test to tell whether it was tried at all.
type came map[string]int

func (c came) isMore(t *testing.T, n int, words ...string) {
	t.Helper()
	for _, w := range words {
		if c[w] < n {
			t.Error("hardly comes: ", w, c[w])
		}
	}
}

// isAsTold holds a script to the chapter told over again: what it answered.
func isAsTold(t *testing.T, text string) ([]string, error) {
	t.Helper()
	l, err := desk.Run(text)
	if want, e := runTold(text); !slices.Equal(l, want) || err != e {
		t.Fatalf("%s: %.300q, %v; wanted %.300q, %v", end(text), l, err, want, e)
	}
	return l, err
}
