package step_test

import (
	"reflect"
	"slices"
	"testing"

	"proviso/api"
	"proviso/code"
	"proviso/frames"
	"proviso/step"
	"proviso/types"
)

// isApplied fails the test, if Apply does not answer what the document's words say.
func isApplied(t *testing.T, e api.Env, f api.Frame, in api.Instr) api.Errno {
	t.Helper()
	want, err := applied(e, f, in)
	if g, why := step.Apply(e, f, in); g != want || why != err {
		t.Fatalf("%s %d %d in Fn %d over %v: %v, %v; want %v, %v", code.Name(in.Op), in.A, in.B, e.Fn, f, g, why, want, err)
	}
	return err
}

func TestP7_1TheTableHasAllInstructions(t *testing.T) {
	for op := range api.NumOps {
		takes, gives := row(op)
		if n := len(takes) + len(gives); n > 4 {
			t.Error(op, n)
		}
	}
	for i, name := range slices.Collect(words) {
		if code.Name(byte(i)) != name {
			t.Error(i, name)
		}
	}
}

func TestP7_1EveryStack(t *testing.T) {
	came := map[api.Errno]int{}
	for fn := range 4 {
		e := world(fn)
		for s := range stacks(e.Classes, 2) {
			for locals := range 2 {
				f := of(locals, append(slices.Repeat([]api.Type{box}, locals), s...)...)
				for _, in := range instrs() {
					came[isApplied(t, e, f, in)]++
				}
			}
		}
	}
	for _, why := range []api.Errno{api.OK, api.ErrSlot, api.ErrFunc, api.ErrMember, api.ErrUnder, api.ErrWant, api.ErrResult} {
		if came[why] < 100 {
			t.Error(why, "hardly comes", came)
		}
	}
}

func TestP7_1HigherStacks(t *testing.T) {
	e := world(0)
	for s := range stacks(e.Classes, 3) {
		for _, in := range []api.Instr{{Op: api.OpSet}, {Op: api.OpCall, A: 2}, {Op: api.OpSwap}, {Op: api.OpReturn}, {Op: api.OpPut, A: 3, B: 1}} {
			isApplied(t, e, of(0, s...), in)
		}
	}
}

func TestP7_1InAllWorlds(t *testing.T) {
	d, came := dice(7), map[api.Errno]int{}
	for _, e := range worlds() {
		for range 6000 {
			f := thrown(&d, e.Classes, d.below(4), d.below(10))
			in := api.Instr{At: d.below(9), Op: byte(d.below(34)), A: d.below(36) - 2, B: d.below(20) - 1}
			if d.below(2) == 0 {
				f = fitting(&d, e, f, in)
			}
			came[isApplied(t, e, f, in)]++
		}
	}
	if came[api.OK] < 5000 || came[api.ErrWant] < 5000 {
		t.Error("hardly comes", came)
	}
}

// fitting is a frame on whose top lies what an instruction takes, if its operands name something.
func fitting(d *dice, e api.Env, f api.Frame, in api.Instr) api.Frame {
	if named(e, in) != api.OK {
		return f
	}
	words, sig := takenBy(e, in)
	all := valids(e.Classes)
	for i := range len(words) + len(sig) {
		t := all[d.below(len(all))]
		for words != nil && !isWanted(e, in, words[i], t) || words == nil && !types.Sub(e.Classes, t, sig[i]) {
			t = all[d.below(len(all))]
		}
		f, _ = frames.Push(f, t)
	}
	return f
}

func TestP7_1RoomAtEveryShape(t *testing.T) {
	came := map[api.Errno]int{}
	for locals := range api.MaxLocals + 1 {
		for height := range api.MaxSlots - locals + 1 {
			for _, entry := range []api.Type{api.TInt, api.TBool, api.TNull, api.TTop} {
				f := of(locals, slices.Repeat([]api.Type{entry}, locals+height)...)
				for op := range api.NumOps {
					came[isApplied(t, world(0), f, api.Instr{Op: op})]++
					came[isApplied(t, world(2), f, api.Instr{Op: op, A: locals - 1})]++
				}
			}
		}
	}
	if came[api.ErrOver] < 100 {
		t.Error("hardly comes", came)
	}
	full := of(0, slices.Repeat([]api.Type{api.TInt}, api.MaxSlots)...)
	for _, op := range []byte{api.OpInt, api.OpBool, api.OpNull, api.OpDup, api.OpNew} {
		if g, why := step.Apply(world(0), full, api.Instr{Op: op}); why != api.ErrOver || g != (api.Frame{}) {
			t.Error(op, g, why)
		}
	}
	e := api.Env{Sigs: []api.Sig{{Params: slices.Repeat([]api.Type{api.TInt}, 8), Result: api.TBool}}}
	if g, why := step.Apply(e, full, api.Instr{Op: api.OpCall}); why != api.OK || g.Height != 17 || g.Slots[16] != api.TBool {
		t.Error("a call that makes its own room", g, why)
	}
}

func TestP7_1OperandsThatNameNothing(t *testing.T) {
	for _, e := range worlds() {
		for _, f := range []api.Frame{of(0), of(16, slices.Repeat([]api.Type{api.TNull}, 24)...), of(3, api.TInt, api.TTop, api.TNull, api.TInt, api.TNull)} {
			for op := range api.NumOps {
				for a, b := range operands(op) {
					isApplied(t, e, f, api.Instr{Op: op, A: a, B: b})
				}
			}
		}
	}
}

func TestP7_1NoInstruction(t *testing.T) {
	for op := 34; op < 256; op++ {
		for _, f := range []api.Frame{of(0), of(1, api.TInt, api.TInt)} {
			if g, why := step.Apply(world(0), f, api.Instr{Op: byte(op), A: -1, B: -1}); why != api.ErrOp || g != (api.Frame{}) {
				t.Error(op, g, why)
			}
		}
	}
}

func TestP7_1EnvironmentsThatCantBe(t *testing.T) {
	for name, e := range cantBe() {
		if can(e) {
			t.Fatal("it can be:", name)
		}
		for _, f := range []api.Frame{of(0), {Locals: 17}, of(1, 99, api.TInt)} {
			for _, op := range []byte{api.OpNop, api.OpLoad, api.OpCall, api.OpNew, api.OpReturn, api.OpGet, 34, 255} {
				in := api.Instr{Op: op, A: -1}
				if g, why := step.Apply(e, f, in); why != api.ErrArg || g != (api.Frame{}) {
					t.Error("Apply", name, op, g, why)
				}
				if g, at, why := step.Line(e, f, []api.Instr{in}); why != api.ErrArg || at != 0 || g != (api.Frame{}) {
					t.Error("Line", name, op, g, at, why)
				}
				if n, why := step.Takes(e, in); why != api.ErrArg || n != 0 {
					t.Error("Takes", name, op, n, why)
				}
				if n, why := step.Gives(e, in); why != api.ErrArg || n != 0 {
					t.Error("Gives", name, op, n, why)
				}
			}
			if g, at, why := step.Line(e, f, nil); why != api.ErrArg || at != 0 || g != (api.Frame{}) {
				t.Error("Line of none", name, g, at, why)
			}
		}
	}
}

func TestP7_1EnvironmentsThatCanBe(t *testing.T) {
	for i, e := range worlds() {
		if !can(e) {
			t.Fatal("it can't be:", i)
		}
		if f, why := step.Apply(e, of(0), api.Instr{}); why != api.OK || f != of(0) {
			t.Error(i, f, why)
		}
	}
}

func TestP7_1FramesThatCantBe(t *testing.T) {
	behind := of(1, api.TInt, api.TInt)
	behind.Slots[2] = api.TInt
	for _, x := range []struct {
		f    api.Frame
		want api.Errno
	}{
		{api.Frame{Locals: -1}, api.ErrShape},
		{api.Frame{Locals: 17}, api.ErrShape},
		{api.Frame{Height: -1}, api.ErrShape},
		{api.Frame{Height: 25}, api.ErrShape},
		{api.Frame{Locals: 16, Height: 9}, api.ErrShape},
		{behind, api.ErrShape},
		{of(1, 6, api.TInt), api.ErrType},
		{of(1, api.TInt, api.TClass+4), api.ErrType},
		{of(2, 255, api.TInt), api.ErrType},
	} {
		for _, op := range []byte{api.OpNop, api.OpLoad, api.OpAdd, api.OpCall, api.OpNew, 34, 255} {
			in := api.Instr{Op: op, A: 99}
			if g, why := step.Apply(world(0), x.f, in); why != x.want || g != (api.Frame{}) {
				t.Error(x.f, op, g, why)
			}
			for _, l := range [][]api.Instr{nil, {}, {in}} {
				if g, at, why := step.Line(world(0), x.f, l); why != x.want || at != 0 || g != (api.Frame{}) {
					t.Error("Line", x.f, op, g, at, why)
				}
			}
		}
	}
}

// first is one input in which all the errors from a place on in the chapter's order apply.
type first struct {
	name string
	f    api.Frame
	in   api.Instr
	want api.Errno
}

func TestP7_1FirstError(t *testing.T) {
	ints := func(n int) []api.Type { return slices.Repeat([]api.Type{api.TInt}, n) }
	for _, x := range []first{
		{"ErrSlot ahead of ErrUnder", of(1, api.TTop), api.Instr{Op: api.OpStore, A: 1}, api.ErrSlot},
		{"ErrSlot ahead of ErrOver", of(16, ints(24)...), api.Instr{Op: api.OpLoad, A: 16}, api.ErrSlot},
		{"ErrFunc ahead of ErrUnder", of(0), api.Instr{Op: api.OpCall, A: 4}, api.ErrFunc},
		{"ErrMember ahead of ErrUnder", of(0), api.Instr{Op: api.OpPut, A: 0, B: 1}, api.ErrMember},
		{"ErrMember ahead of ErrWant", of(0, api.TInt), api.Instr{Op: api.OpCast, A: 4}, api.ErrMember},
		{"ErrMember ahead of ErrOver", of(0, ints(24)...), api.Instr{Op: api.OpNew, A: -1}, api.ErrMember},
		{"ErrUnder ahead of ErrWant", of(0, api.TBool), api.Instr{Op: api.OpAdd}, api.ErrUnder},
		{"ErrUnder of a call ahead of ErrWant", of(0, api.TTop, api.TTop), api.Instr{Op: api.OpCall, A: 2}, api.ErrUnder},
		{"ErrWant of a load ahead of ErrOver", of(16, append([]api.Type{api.TTop}, ints(23)...)...), api.Instr{Op: api.OpLoad}, api.ErrWant},
		{"ErrOver of a load", of(16, ints(24)...), api.Instr{Op: api.OpLoad}, api.ErrOver},
		{"ErrWant ahead of ErrResult", of(0, api.TInt, api.TBool), api.Instr{Op: api.OpReturn}, api.ErrWant},
		{"ErrResult", of(0, api.TBool, api.TInt), api.Instr{Op: api.OpReturn}, api.ErrResult},
		{"ErrUnder of a return", of(3, ints(3)...), api.Instr{Op: api.OpReturn}, api.ErrUnder},
		{"an entry below the top", of(0, api.TBool, api.TInt), api.Instr{Op: api.OpAdd}, api.ErrWant},
	} {
		if g, why := step.Apply(world(0), x.f, x.in); why != x.want || g != (api.Frame{}) {
			t.Error(x.name, g, why)
		}
		if _, why := applied(world(0), x.f, x.in); why != x.want {
			t.Error("the words of the document", x.name, why)
		}
	}
	if g, why := step.Apply(world(3), of(1, api.TInt, api.TTop), api.Instr{Op: api.OpReturn}); why != api.ErrResult || g != (api.Frame{}) {
		t.Error("something is left where nothing is given", g, why)
	}
}

func TestP7_1WhatPlaysNoPart(t *testing.T) {
	for op := range api.NumOps {
		in := api.Instr{Op: op}
		f := of(1, api.TNull, api.TNull, api.TNull)
		for _, e := range worlds()[2:] {
			want, why := step.Apply(e, f, in)
			for _, n := range huge() {
				other := api.Instr{At: n, Op: op}
				if !hasA(op) {
					other.A = n
				}
				if op != api.OpGet && op != api.OpPut {
					other.B = n
				}
				if g, err := step.Apply(e, f, other); g != want || err != why {
					t.Fatal(code.Name(op), n, g, err, want, why)
				}
			}
		}
	}
}

// hasA tells whether A names a thing that is looked for.
func hasA(op byte) bool {
	return slices.Contains([]byte{api.OpLoad, api.OpStore, api.OpCall, api.OpNew, api.OpGet, api.OpPut, api.OpCast, api.OpTest}, op)
}

// isCounted fails the test, if Takes or Gives does not answer what the document's words say.
func isCounted(t *testing.T, e api.Env, in api.Instr) {
	t.Helper()
	takes, gives, err := counts(e, in)
	if n, why := step.Takes(e, in); n != takes || why != err {
		t.Fatal("Takes", in, n, why, takes, err)
	}
	if n, why := step.Gives(e, in); n != gives || why != err {
		t.Fatal("Gives", in, n, why, gives, err)
	}
}

func TestP7_2TakesAndGives(t *testing.T) {
	for _, e := range worlds() {
		for op := range 256 {
			for a, b := range operands(byte(op)) {
				isCounted(t, e, api.Instr{Op: byte(op), A: a, B: b})
			}
		}
	}
}

func TestP7_2NoLocalIsLookedAt(t *testing.T) {
	for _, a := range huge() {
		for op, want := range map[byte][2]int{api.OpLoad: {0, 1}, api.OpStore: {1, 0}} {
			in := api.Instr{Op: op, A: a}
			takes, e := step.Takes(world(1), in)
			gives, g := step.Gives(world(1), in)
			if takes != want[0] || gives != want[1] || e != api.OK || g != api.OK {
				t.Error(in, takes, gives, e, g)
			}
		}
	}
}

func TestNothingHandedInIsChanged(t *testing.T) {
	for i, e := range worlds() {
		kept := worlds()[i]
		d := dice(23)
		l := slices.Repeat([]api.Instr{{Op: api.OpNop}, {Op: api.OpInt, A: 5}, {Op: api.OpPop}}, 3)
		was := slices.Clone(l)
		for range 500 {
			in := api.Instr{Op: byte(d.below(34)), A: d.below(5), B: d.below(3)}
			f := fitting(&d, e, thrown(&d, e.Classes, d.below(4), d.below(6)), in)
			step.Apply(e, f, in)
			step.Takes(e, in)
			step.Gives(e, in)
			step.Line(e, f, append(l[:len(l):len(l)], in))
			step.Line(e, f, l[:5])
		}
		if !reflect.DeepEqual(e, kept) || !slices.Equal(l, was) {
			t.Error("changed", i)
		}
	}
}

func TestRoomBehindTheEndIsNotRead(t *testing.T) {
	e := world(2)
	cut := e
	cut.Sigs, cut.Classes = e.Sigs[:3], e.Classes[:2]
	cut.Sigs[1].Params = []api.Type{disc, api.TInt, 99}[:2]
	for _, x := range []struct {
		in   api.Instr
		want api.Errno
	}{
		{api.Instr{Op: api.OpCall, A: 3}, api.ErrFunc},
		{api.Instr{Op: api.OpNew, A: 2}, api.ErrMember},
		{api.Instr{Op: api.OpGet, A: 3, B: 0}, api.ErrMember},
		{api.Instr{Op: api.OpCall, A: 1}, api.OK},
	} {
		if f, why := step.Apply(cut, of(0, disc, api.TInt), x.in); why != x.want {
			t.Error(x.in, f, why)
		}
	}
	l := []api.Instr{{Op: api.OpNop}, {Op: 99}}
	if f, at, why := step.Line(cut, of(0), l[:1]); why != api.OK || at != 0 || f != of(0) {
		t.Error(f, at, why)
	}
}
