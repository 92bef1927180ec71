package step_test

import (
	"math"
	"slices"
	"testing"

	"proviso/api"
	"proviso/code"
	"proviso/frames"
	"proviso/step"
)

// lined is P7.3, word by word.
func lined(e api.Env, f api.Frame, l []api.Instr) (api.Frame, int, api.Errno) {
	if _, why := applied(e, f, api.Instr{}); why != api.OK {
		return api.Frame{}, 0, why
	}
	for i, in := range l {
		g, why := applied(e, f, in)
		if why != api.OK {
			return api.Frame{}, i, why
		}
		f = g
	}
	for i := range l {
		if i > 0 && slices.Contains([]byte{api.OpJump, api.OpReturn, api.OpTrap}, l[i-1].Op) {
			return api.Frame{}, i, api.ErrOff
		}
	}
	return f, 0, api.OK
}

// isLined fails the test, if Line does not answer what the document's words say.
func isLined(t *testing.T, e api.Env, f api.Frame, l []api.Instr) api.Errno {
	t.Helper()
	want, place, err := lined(e, f, l)
	if g, at, why := step.Line(e, f, l); g != want || at != place || why != err {
		t.Fatalf("%v over %v: %v, %d, %v; want %v, %d, %v", l, f, g, at, why, want, place, err)
	}
	return err
}

// walk is instructions each of which Apply takes, from a frame on, with few that end.
func walk(d *dice, e api.Env, f api.Frame, n int) []api.Instr {
	var l []api.Instr
	for len(l) < n {
		in := api.Instr{Op: byte(d.below(34)), A: d.below(5), B: d.below(3)}
		if code.Ends(in.Op) && d.below(20) > 0 {
			continue
		}
		if g, why := applied(e, f, in); why == api.OK {
			l, f = append(l, in), g
		}
	}
	return l
}

func TestP7_3LineHeldAgainstItsWords(t *testing.T) {
	d, came, all := dice(31), map[api.Errno]int{}, worlds()
	for range 6000 {
		e := all[d.below(6)]
		f := thrown(&d, e.Classes, d.below(4), d.below(5))
		l := walk(&d, e, f, d.below(12))
		if len(l) > 0 && d.below(3) == 0 {
			l[d.below(len(l))] = api.Instr{Op: byte(d.below(40)), A: d.below(6) - 1, B: d.below(3)}
		}
		came[isLined(t, e, f, l)]++
	}
	for _, why := range []api.Errno{api.OK, api.ErrOff, api.ErrUnder, api.ErrWant, api.ErrOp} {
		if came[why] < 40 {
			t.Error(why, "hardly comes", came)
		}
	}
}

func TestP7_3LineOfNone(t *testing.T) {
	f := of(2, api.TInt, api.TTop, api.TNull)
	for _, l := range [][]api.Instr{nil, {}, make([]api.Instr, 3)[:0]} {
		if g, at, why := step.Line(world(0), f, l); g != f || at != 0 || why != api.OK {
			t.Error(g, at, why)
		}
	}
}

func TestP7_3BehindAnEnd(t *testing.T) {
	nop, none := api.Instr{Op: api.OpNop}, api.Instr{Op: 99}
	for _, op := range []byte{api.OpJump, api.OpTrap, api.OpReturn} {
		end := api.Instr{Op: op, A: 7}
		for _, x := range []struct {
			l    []api.Instr
			at   int
			want api.Errno
		}{
			{[]api.Instr{end}, 0, api.OK},
			{[]api.Instr{nop, nop, end}, 0, api.OK},
			{[]api.Instr{end, nop}, 1, api.ErrOff},
			{[]api.Instr{nop, end, end, nop}, 2, api.ErrOff},
			{[]api.Instr{end, nop, nop, end}, 1, api.ErrOff},
			{[]api.Instr{none, end, nop}, 0, api.ErrOp},
			{[]api.Instr{end, none}, 1, api.ErrOp},
			{[]api.Instr{end, nop, none}, 2, api.ErrOp},
		} {
			if f, at, why := step.Line(world(3), of(1, api.TInt), x.l); at != x.at || why != x.want || why != api.OK && f != (api.Frame{}) || why == api.OK && f != of(1, api.TInt) {
				t.Error(code.Name(op), x.l, f, at, why)
			}
		}
	}
	l := []api.Instr{{Op: api.OpBool}, {Op: api.OpUnless, A: 3}, {Op: api.OpInt}}
	if f, at, why := step.Line(world(3), of(0), l); f != of(0, api.TInt) || at != 0 || why != api.OK {
		t.Error("unless goes on", f, at, why)
	}
}

func TestP7_3LongLines(t *testing.T) {
	for _, n := range []int{24, 25, 1000, 300000} {
		l := slices.Repeat([]api.Instr{{Op: api.OpInt}, {Op: api.OpPop}}, n)
		if f, at, why := step.Line(worlds()[6], of(0), l); f != of(0) || at != 0 || why != api.OK {
			t.Error(n, f, at, why)
		}
		l[len(l)-1].Op = api.OpNot
		if f, at, why := step.Line(worlds()[6], of(0), l); f != (api.Frame{}) || at != len(l)-1 || why != api.ErrWant {
			t.Error(n, f, at, why)
		}
	}
	ints := slices.Repeat([]api.Instr{{Op: api.OpInt}}, 25)
	if f, at, why := step.Line(world(0), of(0), ints); at != 24 || why != api.ErrOver || f != (api.Frame{}) {
		t.Error(f, at, why)
	}
}

func TestP7_4Monotone(t *testing.T) {
	d, came, unlike, all := dice(37), 0, 0, worlds()
	for range 60000 {
		e := all[d.below(8)]
		in := api.Instr{Op: byte(d.below(34)), A: d.below(4), B: d.below(3)}
		g := fitting(&d, e, thrown(&d, e.Classes, d.below(4), d.below(4)), in)
		f := beneath(&d, e, g)
		after, why := step.Apply(e, g, in)
		if why != api.OK {
			continue
		}
		came++
		if f != g {
			unlike++
		}
		if lower, why := step.Apply(e, f, in); why != api.OK || !frames.Sub(e.Classes, lower, after) {
			t.Fatal(code.Name(in.Op), in.A, in.B, f, lower, why, g, after)
		}
	}
	if came < 10000 || unlike < 5000 {
		t.Error("hardly comes", came, unlike)
	}
}

// beneath is a frame that is of f.
func beneath(d *dice, e api.Env, f api.Frame) api.Frame {
	for range 3 {
		if g := thrown(d, e.Classes, f.Locals, f.Height); frames.Sub(e.Classes, g, f) {
			return g
		}
	}
	g := f
	all := valids(e.Classes)
	for i := range f.Locals + f.Height {
		was := g.Slots[i]
		if g.Slots[i] = all[d.below(len(all))]; !frames.Sub(e.Classes, g, f) {
			g.Slots[i] = was
		}
	}
	return g
}

func TestP7_5And7_6HeightsAndFramesThatCanBe(t *testing.T) {
	d, came, all := dice(41), 0, worlds()
	for range 60000 {
		e := all[d.below(8)]
		in := api.Instr{Op: byte(d.below(34)), A: d.below(4), B: d.below(3)}
		f := fitting(&d, e, thrown(&d, e.Classes, d.below(17), d.below(6)), in)
		g, why := step.Apply(e, f, in)
		if why != api.OK {
			continue
		}
		came++
		takes, e1 := step.Takes(e, in)
		gives, e2 := step.Gives(e, in)
		if e1 != api.OK || e2 != api.OK || g.Height != f.Height-takes+gives {
			t.Fatal("P7.5", code.Name(in.Op), f, g, takes, gives, e1, e2)
		}
		if frames.Check(e.Classes, g) != api.OK || g.Locals != f.Locals {
			t.Fatal("P7.6", code.Name(in.Op), f, g)
		}
	}
	if came < 10000 {
		t.Error("hardly comes", came)
	}
}

func TestP7_7Parts(t *testing.T) {
	d, came, all := dice(43), 0, worlds()
	for range 6000 {
		e := all[d.below(8)]
		f := thrown(&d, e.Classes, d.below(4), d.below(5))
		l := walk(&d, e, f, 1+d.below(10))
		cut := d.below(len(l) + 1)
		if slices.ContainsFunc(l[:len(l)-1], func(in api.Instr) bool { return code.Ends(in.Op) }) {
			continue
		}
		came++
		mid, at, why := step.Line(e, f, l[:cut])
		if at != 0 || why != api.OK {
			t.Fatal(l[:cut], at, why)
		}
		whole, _, e1 := step.Line(e, f, l)
		parts, _, e2 := step.Line(e, mid, l[cut:])
		if whole != parts || e1 != e2 {
			t.Fatal(l, cut, whole, parts, e1, e2)
		}
	}
	if came < 1000 {
		t.Error("hardly comes", came)
	}
}

func TestExamplesOfChapter7(t *testing.T) {
	p := api.Env{Classes: []api.Class{{Name: "p", Parent: -1, Fields: []api.Field{{Name: "x", Type: api.TInt}}}}, Sigs: []api.Sig{{Result: api.TInt}}}
	for i, x := range []struct {
		f    api.Frame
		in   api.Instr
		want api.Frame
		why  api.Errno
	}{
		{of(0, api.TInt, api.TInt), api.Instr{Op: api.OpAdd}, of(0, api.TInt), api.OK},
		{of(0, api.TInt, api.TBool), api.Instr{Op: api.OpAdd}, api.Frame{}, api.ErrWant},
		{of(1, api.TTop), api.Instr{Op: api.OpLoad}, api.Frame{}, api.ErrWant},
		{of(1, api.TTop, api.TNull), api.Instr{Op: api.OpStore}, of(1, api.TNull), api.OK},
		{of(0, api.TInt, api.TInt), api.Instr{Op: api.OpReturn}, api.Frame{}, api.ErrResult},
		{of(0, api.TNull), api.Instr{Op: api.OpGet}, of(0, api.TInt), api.OK},
		{of(0, api.TAny), api.Instr{Op: api.OpGet}, api.Frame{}, api.ErrWant},
		{of(0, api.TAny), api.Instr{Op: api.OpCast}, of(0, api.TClass), api.OK},
	} {
		if f, why := step.Apply(p, x.f, x.in); f != x.want || why != x.why {
			t.Error(i, f, why)
		}
	}
}

func TestAllEndsOfAllArguments(t *testing.T) {
	d := dice(47)
	envs := worlds()
	for _, e := range cantBe() {
		envs = append(envs, e)
	}
	round := []api.Class{{Name: "a", Parent: 1}, {Name: "b", Parent: 0}, {Name: "c", Parent: math.MaxInt}}
	envs = append(envs, api.Env{Classes: round, Sigs: make([]api.Sig, 1000), Fn: 999}, api.Env{Classes: make([]api.Class, 500), Fn: math.MinInt})
	number := func() int { return huge()[d.below(len(huge()))] }
	for range 30000 {
		e := envs[d.below(len(envs))]
		f := api.Frame{Locals: number(), Height: number()}
		if d.below(2) == 0 {
			f = thrown(&d, e.Classes[:min(len(e.Classes), 8)], d.below(17), d.below(9))
		}
		for range d.below(3) {
			f.Slots[d.below(24)] = api.Type(d.below(256))
		}
		in := api.Instr{At: number(), Op: byte(d.below(256)), A: number(), B: number()}
		if d.below(2) == 0 {
			in.Op = byte(d.below(34))
		}
		isApplied(t, e, f, in)
		isLined(t, e, f, []api.Instr{in, in, {}})
		isCounted(t, e, in)
	}
}
