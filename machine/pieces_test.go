package machine_test

import (
	"fmt"
	"math"
	"slices"
	"testing"

	"proviso/api"
	"proviso/machine"
	"proviso/samples"
)

// isAt holds where a machine is against an address.
func isAt(t *testing.T, about string, x *machine.Machine, fn, at, depth int) {
	t.Helper()
	if a, b, c := x.Where(); a != fn || b != at || c != depth {
		t.Errorf("%s: %d %d %d, wanted %d %d %d", about, a, b, c, fn, at, depth)
	}
}

// goesOn holds Go against whether it has ended.
func goesOn(t *testing.T, x *machine.Machine, steps int, ended bool) {
	t.Helper()
	if is, why := x.Go(steps); is != ended || why != api.OK {
		t.Errorf("Go(%d): %v %v", steps, is, why)
	}
}

func TestP17_3StepByStep(t *testing.T) {
	m := over(fun(t, 1, "nop; load 0; tell; jump 7; load 0; return", api.TInt, api.TInt), fun(t, 1, "load 0; call 0; int 1; add; return", api.TInt, api.TInt))
	x := try{m, 1, []int{4}, 0, 0}.begin(t)
	isAt(t, "ahead of the first step", x, 1, 0, 1)
	if o := x.Outcome(); show(o) != show(api.Outcome{Err: api.ErrFuel}) {
		t.Error(o)
	}
	for i, w := range []struct{ fn, at, depth int }{{1, 2, 1}, {0, 0, 2}, {0, 1, 2}, {0, 3, 2}, {0, 4, 2}, {0, 7, 2}, {0, 9, 2}, {1, 4, 1}, {1, 9, 1}, {1, 10, 1}} {
		goesOn(t, x, 1, false)
		isAt(t, "behind a step", x, w.fn, w.at, w.depth)
		want := api.Outcome{Err: api.ErrFuel, Steps: i + 1}
		if i > 3 {
			want.Told = []int{4}
		}
		if o := x.Outcome(); show(o) != show(want) {
			t.Error(o, want)
		}
	}
	goesOn(t, x, 1, true)
	for _, n := range []int{0, 1, 100, math.MaxInt} {
		isAt(t, "ended", x, 0, 0, 0)
		if o := x.Outcome(); show(o) != show(api.Outcome{Result: 5, Steps: 11, Told: []int{4}}) {
			t.Error(o)
		}
		goesOn(t, x, n, true)
	}
}

func TestP17_3EndsOfAllKinds(t *testing.T) {
	for text, want := range map[string]api.Outcome{
		"new 0; int 7; tell; int 0; dup; div": {Err: api.ErrTrap, Trap: api.TrapDivide, Steps: 6, Cells: 2, Told: []int{7}},
		"new 0; int 7; tell; int 0; dup; len": {Err: api.ErrStuck, Steps: 6, Cells: 2, Told: []int{7}},
		"new 0; int 7; tell; pop; int 8":      {Err: api.ErrStuck, Steps: 6, Cells: 2, Told: []int{7}},
		"new 0; int 7; tell; pop; return":     {Steps: 5, Cells: 2, Told: []int{7}},
		"new 0; int 7; tell; nop; trap 3":     {Err: api.ErrTrap, Trap: 19, Steps: 5, Cells: 2, Told: []int{7}},
	} {
		x := try{over(fun(t, 0, text, none)), 0, nil, 0, 9}.begin(t)
		goesOn(t, x, want.Steps-1, false)
		if _, _, depth := x.Where(); depth != 1 || x.Outcome().Err != api.ErrFuel || x.Outcome().Trap != 0 {
			t.Error(text, depth, x.Outcome())
		}
		goesOn(t, x, 1, true)
		isAt(t, text, x, 0, 0, 0)
		goesOn(t, x, 5, true)
		if o := x.Outcome(); show(o) != show(want) {
			t.Error(text, o)
		}
	}
}

func TestP17_3StepsBelowNone(t *testing.T) {
	x := try{over(fun(t, 0, "int 1; tell; return", none)), 0, nil, 0, 0}.begin(t)
	refused := func(about string) {
		fn, at, depth := x.Where()
		before := show(x.Outcome())
		for _, n := range []int{-1, -2, math.MinInt32, math.MinInt} {
			if ended, why := x.Go(n); ended || why != api.ErrArg {
				t.Error(about, n, ended, why)
			}
		}
		isAt(t, about, x, fn, at, depth)
		if show(x.Outcome()) != before {
			t.Error(about, x.Outcome(), before)
		}
	}
	refused("ahead of the first step")
	goesOn(t, x, 0, false)
	isAt(t, "no step", x, 0, 0, 1)
	goesOn(t, x, 2, false)
	refused("in its midst")
	goesOn(t, x, 1, true)
	refused("ended")
}

// endless goes round, and tells nothing.
func endless(t *testing.T) api.Module { return over(fun(t, 0, "nop; nop; jump 1", none)) }

func TestP17_3NoMoreThanMaxFuelInAll(t *testing.T) {
	want := api.Outcome{Err: api.ErrFuel, Steps: api.MaxFuel}
	for _, l := range [][]int{{api.MaxFuel}, {api.MaxFuel + 1}, {math.MaxInt}, {math.MaxInt, math.MaxInt}, {api.MaxFuel - 1, 1}, {api.MaxFuel - 1, 2, 1}, {5, math.MaxInt - 5}, {api.MaxFuel, 1, 1, 1}} {
		x := try{endless(t), 0, nil, 0, 0}.begin(t)
		for _, n := range l {
			goesOn(t, x, n, false)
		}
		if o := x.Outcome(); show(o) != show(want) {
			t.Error(l, o)
		}
		isAt(t, "it stays there", x, 0, 1+(api.MaxFuel-1)%2, 1)
	}
}

// lasting ends in its n-th step: it goes round as often as it can, and then over some nops.
func lasting(t *testing.T, n int) api.Module {
	const ahead, round, behind = 2, 8, 1 // steps
	rounds, nops := (n-ahead-behind)/round, (n-ahead-behind)%round
	text := fmt.Sprintf("int %d; store 0; load 0; int 1; sub; dup; store 0; int 0; same; unless 7; ", rounds)
	return over(fun(t, 1, text+times(nops, "nop")+"return", none))
}

func TestP17_3EndsWithTheLastFuel(t *testing.T) {
	for _, n := range []int{11, 12, 18, 19, 1000, 1001} {
		try{lasting(t, n), 0, nil, 2000, 0}.comesTo(t, "lasting", api.Outcome{Steps: n})
	}
	last := try{lasting(t, api.MaxFuel), 0, nil, api.MaxFuel, 0}
	if o := last.guarded(); show(o) != show(api.Outcome{Steps: api.MaxFuel}) {
		t.Error(o)
	}
	x := last.begin(t)
	goesOn(t, x, api.MaxFuel-1, false)
	goesOn(t, x, 1, true)
	if o := x.Outcome(); show(o) != show(api.Outcome{Steps: api.MaxFuel}) {
		t.Error(o)
	}
	one := try{lasting(t, api.MaxFuel+1), 0, nil, api.MaxFuel, 0}
	out := api.Outcome{Err: api.ErrFuel, Steps: api.MaxFuel}
	if o := one.guarded(); show(o) != show(out) || show(o) != show(one.bare()) {
		t.Error(o)
	}
	x = one.begin(t)
	for range 3 {
		goesOn(t, x, math.MaxInt, false)
		isAt(t, "ahead of the return", x, 0, len(one.m.Funcs[0].Code)-1, 1)
		if o := x.Outcome(); show(o) != show(out) {
			t.Error(o)
		}
	}
}

func TestP17_3WhereItIs(t *testing.T) {
	d, deepest, steps := dice(2), 0, 0
	for range 700 {
		for _, m := range someModules(t, &d) {
			runsOf(&d, m, func(x try) {
				w := tell(x)
				r, why := machine.Begin(x.m, x.entry, x.args, x.room)
				if len(w.acts) == 0 {
					if r != nil || why != w.o.Err {
						t.Fatal(x, why, w.o)
					}
					return
				}
				for range min(x.fuel, 300) {
					a := w.acts[len(w.acts)-1]
					isAt(t, "by the words", r, a.fn, a.at, len(w.acts))
					w.step()
					if ended, why := r.Go(1); ended != (len(w.acts) == 0) || why != api.OK {
						t.Fatalf("%+v %v %v", x, ended, why)
					}
					if o := r.Outcome(); show(o) != show(w.o) {
						t.Fatalf("%+v\n%+v\nwanted\n%+v", x, o, w.o)
					}
					steps++
					deepest = max(deepest, len(w.acts))
					if len(w.acts) == 0 {
						isAt(t, "ended", r, 0, 0, 0)
						break
					}
				}
			})
		}
	}
	if deepest < 64 || steps < 50000 {
		t.Error("few", deepest, steps)
	}
}

func TestP17_3AMachineThatNoCallMade(t *testing.T) {
	for _, x := range []*machine.Machine{nil, {}, new(machine.Machine)} {
		for _, n := range samples.Numbers() {
			if ended, why := x.Go(n); ended || why != api.ErrNil {
				t.Error(n, ended, why)
			}
		}
		isAt(t, "nowhere", x, 0, 0, 0)
		if o := x.Outcome(); show(o) != show(api.Outcome{Err: api.ErrNil}) {
			t.Error(o)
		}
	}
}

func TestP17_4PieceByPiece(t *testing.T) {
	d, came := dice(3), 0
	for range 1500 {
		for _, m := range someModules(t, &d) {
			runsOf(&d, m, func(x try) {
				if errorAhead(x) != api.OK {
					return
				}
				at, once, sum := x.begin(t), x.begin(t), 0
				for range 1 + d.Below(5) {
					n := d.Below(1 + d.Below(200))
					sum += n
					at.Go(n)
				}
				ended, why := once.Go(sum)
				again, _ := at.Go(0)
				fn, to, depth := once.Where()
				isAt(t, "as at once", at, fn, to, depth)
				if show(at.Outcome()) != show(once.Outcome()) || ended != again || why != api.OK {
					t.Fatalf("%+v\n%+v\n%+v", x, at.Outcome(), once.Outcome())
				}
				x.fuel = sum
				if show(x.guarded()) != show(at.Outcome()) {
					t.Fatalf("%+v\n%+v\n%+v", x, at.Outcome(), x.guarded())
				}
				at.Go(77)
				once.Go(77)
				if x.fuel += 77; show(at.Outcome()) != show(once.Outcome()) || show(x.guarded()) != show(at.Outcome()) {
					t.Fatalf("%+v\n%+v\n%+v", x, at.Outcome(), once.Outcome())
				}
				came++
			})
		}
	}
	if came < 2000 {
		t.Error("few", came)
	}
}

func TestP17_4TwoMachinesKnowNothingOfOneAnother(t *testing.T) {
	m := over(fun(t, 1, "new 0; store 0; load 0; int 5; put 0 0; load 0; get 0 0; tell; jump 0", none))
	x, y := try{m, 0, nil, 0, 40}.begin(t), try{m, 0, nil, 0, 40}.begin(t)
	for n := range 60 {
		x.Go(1)
		y.Go(n % 3)
	}
	for _, r := range []*machine.Machine{x, y} {
		o := r.Outcome()
		if want := (try{m, 0, nil, o.Steps, 40}).guarded(); show(o) != show(want) {
			t.Error(o, want)
		}
	}
}

func TestP17_3NothingIsKept(t *testing.T) {
	text := "load 0; call 1; tell; new 1; get 1 1; pop; new 1; cast 0; test 1; pop; call 2; return"
	m := over(fun(t, 2, text, api.TInt, api.TInt), fun(t, 1, "load 0; int 1; add; return", api.TInt, api.TInt), fun(t, 0, "int 9; return", api.TInt))
	want := try{m, 0, []int{4}, 100, 9}.guarded()
	if want.Err != api.OK || want.Result != 9 {
		t.Fatal(want)
	}
	for n := range want.Steps {
		m := over(slices.Clone(m.Funcs)...)
		for i := range m.Funcs {
			m.Funcs[i].Code = slices.Clone(m.Funcs[i].Code)
			m.Funcs[i].Sig.Params = slices.Clone(m.Funcs[i].Sig.Params)
		}
		args := []int{4}
		x := try{m, 0, args, 0, 9}.begin(t)
		goesOn(t, x, n, false)
		for i := range m.Funcs {
			samples.Overwrite(m.Funcs[i].Code, 77)
			samples.Overwrite(m.Funcs[i].Sig.Params, 77)
		}
		for c := range m.Classes {
			samples.Overwrite(m.Classes[c].Fields, api.Field{Type: 77})
		}
		samples.Overwrite(m.Funcs, api.Func{Locals: -1})
		samples.Overwrite(m.Classes, api.Class{Parent: 77})
		args[0] = 77
		goesOn(t, x, 100, true)
		if o := x.Outcome(); show(o) != show(want) {
			t.Error(n, o, want)
		}
	}
}

func TestP17_3WhatIsToldIsNewMemory(t *testing.T) {
	x := try{over(fun(t, 0, "int 1; tell; int 2; tell; int 3; tell; return", none)), 0, nil, 0, 0}.begin(t)
	for n := range 8 {
		a, b := x.Outcome(), x.Outcome()
		samples.Overwrite(a.Told, 77)
		if want := []int{1, 2, 3}[:n/2]; !slices.Equal(b.Told, want) || !slices.Equal(x.Outcome().Told, want) {
			t.Error(n, b.Told, x.Outcome().Told)
		}
		samples.Overwrite(b.Told[:len(b.Told):len(b.Told)], 78)
		x.Go(1)
	}
	if o := x.Outcome(); !slices.Equal(o.Told, []int{1, 2, 3}) {
		t.Error(o)
	}
}
