package talk_test

import (
	"bytes"
	"fmt"
	"strings"
	"testing"

	"proviso/api"
	"proviso/card"
	"proviso/gen"
	"proviso/infer"
	"proviso/module"
	"proviso/samples"
	"proviso/talk"
)

type dice = samples.Dice

func pick[T any](d *dice, l []T) T { return l[d.Below(len(l))] }

// show is all fields of a thing; an empty list is none.
func show(x any) string { return fmt.Sprintf("%+v", x) }

// shipped is the file of a module with its certificates.
func shipped(t *testing.T, m api.Module) []byte {
	t.Helper()
	m, fn, at, why := infer.Module(m)
	if why != api.OK {
		t.Fatal(fn, at, why)
	}
	b, why := module.Encode(m)
	if why != api.OK {
		t.Fatal(why)
	}
	return b
}

// compiled is the package of a source text.
func compiled(t *testing.T, name, source string) []byte {
	t.Helper()
	m, err := gen.Compile(name, source)
	if err != nil {
		t.Fatal(err)
	}
	return shipped(t, m)
}

// sized is a package of n bytes, with a function f that does nothing for some steps.
func sized(t *testing.T, name string, n int) []byte {
	t.Helper()
	of := func(nops int) []byte {
		return shipped(t, api.Module{Name: name, Funcs: []api.Func{{Name: "f", Code: append(make([]byte, nops), api.OpReturn)}}})
	}
	b := of(n - len(of(0)))
	if len(b) != n {
		t.Fatal(len(b), n)
	}
	return b
}

// small is the least package of a name.
func small(t *testing.T, name string) []byte {
	t.Helper()
	return shipped(t, api.Module{Name: name, Funcs: []api.Func{{Name: "f", Code: []byte{api.OpReturn}}}})
}

// runs has a function for each way in which a run may end.
const runs = `
fun add(a int, b int) int { return a + b; }
fun same(n int) int { return n; }
fun turn(b bool) bool { return !b; }
fun nothing() { }
fun makes() any { var a ints = new ints(2); return new ints(1); }
fun tells(n int) int { var i int = 0; while i < n { tell i * i - 7; i = i + 1; } return n; }
fun over(n int) int { tell n; return 7 / n; }
fun fails() { tell 1; tell 2; fail 200; }
fun great() ints { return new ints(4000); }
fun greater() ints { return new ints(5000); }
fun takes(a ints) int { return 3; }
fun loops() { while true { tell 5; } }
`

func newCard(t *testing.T, quota int) *card.Card {
	t.Helper()
	c, why := card.New(quota)
	if c == nil || why != api.OK {
		t.Fatal(why)
	}
	return c
}

func over(t *testing.T, c *card.Card) *talk.Session {
	t.Helper()
	s, why := talk.New(c)
	if s == nil || why != api.OK {
		t.Fatal(why)
	}
	return s
}

// put installs files on a card by its own call.
func put(t *testing.T, c *card.Card, files ...[]byte) {
	t.Helper()
	for _, b := range files {
		if _, _, why := c.Install(b); why != api.OK {
			t.Fatal(why)
		}
	}
}

// running is a session over a card whose selected package is that of runs.
func running(t *testing.T) (*talk.Session, *card.Card) {
	t.Helper()
	c := newCard(t, 32768)
	put(t, c, compiled(t, "m", runs))
	if why := c.Select("m"); why != api.OK {
		t.Fatal(why)
	}
	return over(t, c), c
}

// asked is what a session answers to a request.
func asked(t *testing.T, s *talk.Session, r api.Request) api.Answer {
	t.Helper()
	a, why := talk.Heard(s.Handle(requestTold(r)))
	if why != api.OK {
		t.Fatal(r, why)
	}
	return a
}

// says holds a session to the answer to a command.
func says(t *testing.T, s *talk.Session, command, number int, data string, status int, want ...byte) {
	t.Helper()
	if a := asked(t, s, api.Request{Command: command, Number: number, Data: []byte(data)}); a.Status != status || !bytes.Equal(a.Data, want) {
		t.Errorf("command %d, %d, %.60q: %x, % .80x; wanted %x, % .80x", command, number, data, a.Status, a.Data, status, want)
	}
}

// calling is a run's Data: a function's name, and numbers.
func calling(name string, args ...int) string {
	b := append([]byte{byte(len(name))}, name...)
	for _, n := range args {
		b = append(b, four(n)...)
	}
	return string(b)
}

func two(n int) []byte { return []byte{byte(n >> 8), byte(n)} }

func four(n int) []byte { return []byte{byte(n >> 24), byte(n >> 16), byte(n >> 8), byte(n)} }

// noNames are texts that are none, short enough for a frame.
func noNames() []string {
	return []string{"", "1", "_a", "a-b", "a ", "a\x00", "é", strings.Repeat("n", 25), strings.Repeat("n", 255)}
}

// state is all that a card tells, but for what its packages do.
func state(c *card.Card) string {
	return fmt.Sprintf("%x %q %d %s", c.Image(), c.Names(), c.Free(), c.Selected())
}

// toldAll is all numbers that a session keeps as told.
func toldAll(t *testing.T, s *talk.Session) []int {
	t.Helper()
	var l []int
	for {
		a := asked(t, s, api.Request{Command: api.CmdTold, Number: len(l)})
		if a.Status != api.StatusOK || len(a.Data)%4 != 0 {
			t.Fatal(a)
		}
		if len(a.Data) == 0 {
			return l
		}
		for b := a.Data; len(b) > 0; b = b[4:] {
			l = append(l, int(int32(uint32(b[0])<<24|uint32(b[1])<<16|uint32(b[2])<<8|uint32(b[3]))))
		}
	}
}

// squares is what tells(n) of runs tells.
func squares(n int) []int {
	var l []int
	for i := range n {
		l = append(l, i*i-7)
	}
	return l
}

// came counts what came of something, for a test to tell whether it was tried at all.
type came map[string]int

func (c came) isMore(t *testing.T, n int, words ...any) {
	t.Helper()
	for _, w := range words {
		if c[fmt.Sprint(w)] < n {
			t.Error("hardly comes: ", w, c[fmt.Sprint(w)])
		}
	}
}
