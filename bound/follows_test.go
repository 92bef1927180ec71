package bound_test

import (
	"bytes"
	"reflect"
	"slices"
	"testing"

	"proviso/api"
	"proviso/bound"
	"proviso/code"
	"proviso/flow"
	"proviso/infer"
	"proviso/machine"
	"proviso/meaning"
	"proviso/opt"
	"proviso/samples"
	"proviso/step"
)

// argument is a value of a type from outside.
func argument(d *dice, t api.Type) int {
	if t == api.TBool {
		return d.Below(2)
	}
	return pick(d, []int{0, 1, 2, 3, 5, 9, -1, -7, 1<<31 - 1, -1 << 31, d.Below(1000)})
}

// try is a run of a function that has a bound.
type try struct {
	m    api.Module
	fn   int
	args []int
	b    api.Bounds
}

// tries yields runs of functions whose depth has a bound, of modules that infer takes, and of these optimised.
func tries(t *testing.T, seed dice, n int) func(yield func(d *dice, x try) bool) {
	return func(yield func(d *dice, x try) bool) {
		d := seed
		for range n {
			l := []api.Module{ahead(&d, 1+d.Below(7)), samples.Module(&d, 1+d.Below(5)), compiled(t, samples.Source(&d, 1+d.Below(8)))}
			for _, m := range l[:3] {
				if less, why := opt.Module(m); why == api.OK {
					l = append(l, less)
				}
			}
			for _, m := range l {
				for fn, f := range m.Funcs {
					x := try{m: m, fn: fn}
					for _, p := range f.Sig.Params {
						x.args = append(x.args, argument(&d, p))
					}
					why := api.OK
					x.b, _, why = bound.Of(m, fn)
					if why == api.OK && accepted(m) && x.b.Depth.Is && meaning.Admits(f.Sig, x.args) && !yield(&d, x) {
						return
					}
				}
			}
		}
	}
}

func TestP20_4Depth(t *testing.T) {
	came, met := 0, map[int]int{}
	for d, x := range tries(t, 2, 500) {
		run, why := machine.Begin(x.m, x.fn, x.args, d.Below(100))
		if why != api.OK {
			t.Fatal(x, why)
		}
		deepest := 0
		for ended := false; !ended && run.Outcome().Steps < 500; {
			_, _, depth := run.Where()
			deepest = max(deepest, depth)
			if ended, why = run.Go(1); why != api.OK {
				t.Fatal(why)
			}
		}
		if deepest > x.b.Depth.Most || run.Outcome().Err == api.ErrStuck {
			t.Fatalf("%+v: %d", x, deepest)
		}
		came++
		if deepest == x.b.Depth.Most {
			met[deepest]++
		}
	}
	if came < 1500 || len(met) < 4 {
		t.Error("few", came, met)
	}
}

// The functions of a chain are all begun when the last one runs: the bound is met.
func TestP20_4DepthIsMet(t *testing.T) {
	for _, n := range []int{1, 2, 63, 64} {
		m := over()
		for fn := range n {
			text := "return"
			if fn+1 < n {
				text = "call " + show(fn+1) + "; return"
			}
			m.Funcs = append(m.Funcs, fun(t, 0, text, none))
		}
		b, _, _ := bound.Of(m, 0)
		o := machine.Guarded(m, 0, nil, 1000, 0)
		if b.Depth != is(n) || b.Steps != is(o.Steps) || o.Err != api.OK || o.Steps != 2*n-1 {
			t.Error(n, b, o)
		}
	}
}

func TestP20_5StepsAndCells(t *testing.T) {
	steps, cells, met, full, trapped := 0, 0, 0, 0, 0
	for d, x := range tries(t, 3, 800) {
		for _, fuel := range []int{d.Below(100), 5000} {
			for _, room := range []int{d.Below(20), api.MaxRoom} {
				o := machine.Guarded(x.m, x.fn, x.args, fuel, room)
				if x.b.Steps.Is && o.Steps > x.b.Steps.Most || x.b.Cells.Is && o.Cells > x.b.Cells.Most {
					t.Fatalf("%+v\n%+v", x, o)
				}
				if x.b.Cells.Is && x.b.Cells.Most > 0 {
					cells++
					if o.Cells == x.b.Cells.Most {
						full++
					}
				}
			}
		}
		if !x.b.Steps.Is {
			continue
		}
		o := machine.Guarded(x.m, x.fn, x.args, x.b.Steps.Most, d.Below(30))
		if o.Err == api.ErrFuel {
			t.Fatalf("%+v\n%+v", x, o)
		}
		steps++
		if o.Steps == x.b.Steps.Most {
			met++
		}
		if o.Err == api.ErrTrap {
			trapped++
		}
		// with room for all its cells it is not trapped for want of room
		if o := machine.Guarded(x.m, x.fn, x.args, x.b.Steps.Most, x.b.Cells.Most); x.b.Cells.Is && o.Trap == api.TrapRoom {
			t.Fatalf("%+v\n%+v", x, o)
		}
	}
	if steps < 2000 || cells < 2000 || met < 500 || full < 500 || trapped < 300 {
		t.Error("few", steps, cells, met, full, trapped)
	}
}

// At the greatest bounds there are.
func TestP20_5AtTheLimits(t *testing.T) {
	m := doubling(t, 3)
	if o := machine.Guarded(m, 0, nil, api.MaxFuel, 0); o.Err != api.OK || o.Steps != api.MaxFuel {
		t.Error(o)
	}
	if o := machine.Guarded(m, 0, nil, api.MaxFuel-1, 0); o.Err != api.ErrFuel {
		t.Error(o)
	}
	m = eights(t, 512, 0)
	if o := machine.Guarded(m, 0, nil, api.MaxFuel, api.MaxRoom); o.Err != api.OK || o.Cells != api.MaxRoom {
		t.Error(o)
	}
	m = eights(t, 512, 1)
	if o := machine.Guarded(m, 0, nil, api.MaxFuel, api.MaxRoom); o.Trap != api.TrapRoom {
		t.Error(o)
	}
}

// straight is code of one way, as the dice fall: neither unless nor call nor trap, with jumps between some of its instructions; at last all is taken from the stack.
func straight(d *dice, e api.Env, locals int) []byte {
	f, _ := startOf(e, locals)
	var l []api.Instr
	put := func(in api.Instr) {
		if g, why := step.Apply(e, f, in); why == api.OK {
			f, l = g, append(l, in)
		}
	}
	for range 5 + d.Below(40) {
		in := api.Instr{Op: byte(d.Below(34))}
		switch in.Op {
		case api.OpJump, api.OpUnless, api.OpCall, api.OpReturn, api.OpTrap:
			continue
		case api.OpGet, api.OpPut:
			in.B = d.Below(2)
			in.A = d.Below(4)
		case api.OpInt, api.OpBool:
			in.A = d.Below(2)
		default:
			if code.Size(in.Op) > 1 {
				in.A = d.Below(4)
			}
		}
		put(in)
	}
	for range f.Height {
		put(api.Instr{Op: api.OpPop})
	}
	return scattered(d, append(l, api.Instr{Op: api.OpReturn}))
}

// startOf is the frame at a function's beginning, which infer tells of any code.
func startOf(e api.Env, locals int) (api.Frame, api.Errno) {
	l, _, why := infer.Infer(e, locals, []byte{api.OpTrap, 0})
	return l[0].Frame, why
}

// scattered lays pieces of a way in another order, with jumps from each to the next one.
func scattered(d *dice, l []api.Instr) []byte {
	var pieces [][]api.Instr
	for len(l) > 0 {
		n := 1 + d.Below(len(l))
		pieces = append(pieces, slices.Clip(l[:n]))
		l = l[n:]
	}
	for i := range pieces[1:] {
		pieces[i] = append(pieces[i], api.Instr{Op: api.OpJump}) // to piece i + 1
	}
	order := make([]int, len(pieces))
	for i := range order {
		order[i] = i
	}
	for i := len(order) - 1; i > 1; i-- { // the first one stays
		k := 1 + d.Below(i)
		order[i], order[k] = order[k], order[i]
	}
	ats, at := make([]int, len(pieces)), 0
	for _, i := range order {
		ats[i] = at
		for _, in := range pieces[i] {
			at += code.Size(in.Op)
		}
	}
	var b []byte
	for _, i := range order {
		if i+1 < len(pieces) {
			pieces[i][len(pieces[i])-1].A = ats[i+1]
		}
		x, _, _ := code.All(pieces[i])
		b = append(b, x...)
	}
	return b
}

func TestP20_6ItIsMet(t *testing.T) {
	d, came, jumps := dice(4), 0, 0
	for range 4000 {
		locals := d.Below(4)
		e := api.Env{Classes: samples.Shapes(), Sigs: []api.Sig{{}}}
		m := over(api.Func{Name: "f", Locals: locals, Code: straight(&d, e, locals)})
		b, _, why := bound.Of(m, 0)
		l, _, refused := infer.Infer(e, locals, m.Funcs[0].Code)
		if why != api.OK || refused != api.OK || b.Steps != is(len(l)) || b.Depth != is(1) {
			t.Fatal(m.Funcs[0].Code, b, why, refused, len(l))
		}
		o := machine.Guarded(m, 0, nil, len(l), api.MaxRoom)
		if o.Err == api.OK {
			came++
			if o.Steps != len(l) || b.Cells.Is && o.Cells != b.Cells.Most {
				t.Fatal(m.Funcs[0].Code, b, o)
			}
		} else if o.Err != api.ErrTrap {
			t.Fatal(o)
		}
		if in, _, _ := flow.Scan(m.Funcs[0].Code); len(flow.Targets(in)) > 0 {
			jumps++
		}
	}
	if came < 2000 || jumps < 2000 {
		t.Error("few", came, jumps)
	}
}

func TestP20_7OfWhatItCalls(t *testing.T) {
	deep := 0
	for _, x := range tries(t, 5, 500) {
		l, _, why := bound.Calls(x.m, x.fn)
		if why != api.OK {
			t.Fatal(why)
		}
		for _, n := range l {
			b, _, why := bound.Of(x.m, n)
			if why != api.OK || !b.Depth.Is || !b.Slots.Is || b.Depth.Most >= x.b.Depth.Most || b.Slots.Most > x.b.Slots.Most {
				t.Fatalf("%+v\n%+v", x, b)
			}
			if x.b.Steps.Is && (!b.Steps.Is || b.Steps.Most >= x.b.Steps.Most) || x.b.Cells.Is && (!b.Cells.Is || b.Cells.Most > x.b.Cells.Most) {
				t.Fatalf("%+v\n%+v", x, b)
			}
			deep++
		}
	}
	if deep < 1000 {
		t.Error("few", deep)
	}
}

// belonging are the functions that belong to one.
func belonging(m api.Module, fn int) []int {
	all := []int{fn}
	for i := 0; i < len(all); i++ {
		l, _, _ := bound.Calls(m, all[i])
		for _, n := range l {
			if !slices.Contains(all, n) {
				all = append(all, n)
			}
		}
	}
	return all
}

func TestP20_8WhatIsNotCalled(t *testing.T) {
	d, changed := dice(6), 0
	for range 800 {
		for _, m := range []api.Module{ahead(&d, 1+d.Below(7)), samples.Module(&d, 1+d.Below(6)), compiled(t, samples.Source(&d, 4))} {
			if d.Below(4) == 0 && len(m.Funcs) > 0 {
				m = spoilt(&d, m)
			}
			for fn := range m.Funcs {
				b, n, why := bound.Of(m, fn)
				its := belonging(m, fn)
				other := m
				other.Funcs = slices.Clone(m.Funcs)
				for k := range other.Funcs {
					if slices.Contains(its, k) {
						continue
					}
					f := &other.Funcs[k]
					f.Name, f.Locals = "other", pick(&d, samples.Numbers())
					f.Code = pick(&d, [][]byte{nil, {api.OpPop}, {api.OpCall, byte(k), api.OpReturn}, {api.OpCall, byte(fn), api.OpJump, 0, 0}, samples.Anything(&d, 20), bytes.Repeat([]byte{0}, 5000)})
					changed++
				}
				if c, p, also := bound.Of(other, fn); c != b || p != n || also != why {
					t.Fatal(fn, b, n, why, c, p, also)
				}
			}
		}
	}
	if changed < 3000 {
		t.Error("few", changed)
	}
}

// TestP8NoRunPassesItsBounds: nor does one of what was optimised pass those of what it was.
func TestP8NoRunPassesItsBounds(t *testing.T) {
	d, came := dice(7), 0
	for range 1000 {
		m := ahead(&d, 1+d.Below(7))
		less, why := opt.Module(m)
		if why != api.OK || !accepted(m) || !accepted(less) {
			continue
		}
		for fn := range m.Funcs {
			b, _, _ := bound.Of(m, fn)
			o := machine.Guarded(less, fn, nil, 3000, 200)
			if b.Steps.Is && o.Steps > b.Steps.Most || b.Cells.Is && o.Cells > b.Cells.Most {
				t.Fatal(b, o)
			}
			if c, _, _ := bound.Of(less, fn); b.Steps.Is && (!c.Steps.Is || c.Steps.Most > b.Steps.Most) {
				t.Fatal(b, c)
			}
			came++
		}
	}
	if came < 1000 {
		t.Error("few", came)
	}
}

// copied is a module that shares nothing with another one.
func copied(m api.Module) api.Module {
	n, _, _, _ := infer.Module(api.Module{Name: m.Name, Classes: m.Classes})
	for _, f := range m.Funcs {
		f.Sig.Params = append([]api.Type(nil), f.Sig.Params...)
		f.Code = bytes.Clone(f.Code)
		n.Funcs = append(n.Funcs, f)
	}
	for _, c := range m.Certs {
		n.Certs = append(n.Certs, bytes.Clone(c))
	}
	return n
}

func TestNothingHandedInIsChanged(t *testing.T) {
	d := dice(8)
	for range 200 {
		m := copied(samples.Module(&d, 1+d.Below(5)))
		for i, f := range m.Funcs {
			m.Funcs[i].Code = append(f.Code, 77)[:len(f.Code)]
			m.Funcs[i].Sig.Params = append(f.Sig.Params, 77)[:len(f.Sig.Params)]
		}
		was := copied(m)
		for fn := range m.Funcs {
			bound.Calls(m, fn)
			bound.Height(m, fn)
			bound.Loops(m, fn)
			bound.Of(m, fn)
		}
		bound.Rings(m)
		for i, f := range m.Funcs {
			if n := len(f.Code); f.Code[:n+1][n] != 77 || f.Sig.Params[:len(f.Sig.Params)+1][len(f.Sig.Params)] != 77 {
				t.Fatal("the room behind has changed", i)
			}
		}
		if show(m) != show(was) {
			t.Fatal(m, was)
		}
	}
}

func TestAnswersAreNewMemory(t *testing.T) {
	m := texts(t, "call 2; call 0; call 1; return", "call 1; call 0; return", "return")
	was := copied(m)
	for _, ask := range []func() ([]int, int, api.Errno){func() ([]int, int, api.Errno) { return bound.Calls(m, 0) }, func() ([]int, int, api.Errno) { return bound.Rings(m) }} {
		one, _, _ := ask()
		two, _, _ := ask()
		kept := slices.Clone(two)
		samples.Overwrite(one, 77)
		if three, _, _ := ask(); !slices.Equal(two, kept) || !slices.Equal(three, kept) || len(kept) < 2 {
			t.Error(two, three, kept)
		}
	}
	if !reflect.DeepEqual(m.Funcs, was.Funcs) {
		t.Error(m)
	}
}

func TestRoomBehindTheEndIsNotRead(t *testing.T) {
	m := texts(t, "call 1; return", "return")
	cut := m
	cut.Funcs = m.Funcs[:1]
	if l, at, why := bound.Calls(cut, 0); l != nil || at != 0 || why != api.ErrFunc {
		t.Error(l, at, why)
	}
	if _, _, why := bound.Calls(cut, 1); why != api.ErrArg {
		t.Error(why)
	}
	m.Funcs[1].Code = []byte{api.OpNop, api.OpReturn}[:1]
	if b, n, why := bound.Of(m, 0); b != (api.Bounds{}) || n != 1 || why != api.ErrOff {
		t.Error(b, n, why)
	}
}

func TestNilAndEmptyListsAreOne(t *testing.T) {
	a := api.Module{Funcs: []api.Func{{Code: []byte{api.OpReturn}}, {}}}
	b := api.Module{Classes: []api.Class{}, Certs: [][]byte{}, Funcs: []api.Func{{Sig: api.Sig{Params: []api.Type{}}, Code: []byte{api.OpReturn}}, {Code: []byte{}}}}
	for fn := -1; fn < 3; fn++ {
		x, n, why := bound.Of(a, fn)
		y, k, also := bound.Of(b, fn)
		if x != y || n != k || why != also {
			t.Error(fn, x, y, n, k, why, also)
		}
	}
	isTold(t, a)
	isTold(t, b)
}

func TestAllEndsOfAllArguments(t *testing.T) {
	d := dice(9)
	for range 3000 {
		m := samples.Module(&d, 1+d.Below(4))
		for range 1 + d.Below(2) {
			m = spoilt(&d, m)
		}
		f := &m.Funcs[d.Below(len(m.Funcs))]
		switch d.Below(6) {
		case 0:
			f.Locals = pick(&d, samples.Numbers())
		case 1:
			f.Sig.Params = make([]api.Type, d.Below(300))
		case 2:
			m.Classes[d.Below(4)].Parent = pick(&d, samples.Numbers())
		case 3:
			m.Funcs = slices.Repeat(m.Funcs, 1+d.Below(70))
		}
		fn := d.Below(len(m.Funcs))
		if d.Below(3) == 0 {
			fn = pick(&d, samples.Numbers())
		}
		bound.Calls(m, fn)
		bound.Height(m, fn)
		bound.Loops(m, fn)
		bound.Of(m, fn)
		bound.Rings(m)
	}
}
