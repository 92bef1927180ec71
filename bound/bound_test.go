package bound_test

import (
	"bytes"
	"slices"
	"testing"

	"proviso/api"
	"proviso/bound"
	"proviso/infer"
	"proviso/samples"
)

func TestP20_3Examples(t *testing.T) {
	one := "int 1; pop; return"
	m := texts(t, one, "call 0; call 0; return", "call 2; return", "bool 1; unless 14; int 1; pop; jump 14; return")
	m.Funcs[0].Locals = 2
	isBounded(t, "1", m, 0, api.Bounds{Depth: is(1), Slots: is(3), Steps: is(3), Cells: is(0)})
	isBounded(t, "2", m, 1, api.Bounds{Depth: is(2), Slots: is(3), Steps: is(9), Cells: is(0)})
	isBounded(t, "2, itself", m, 2, api.Bounds{})
	isBounded(t, "3", m, 3, api.Bounds{Depth: is(1), Slots: is(1), Steps: is(6), Cells: is(0)})
	if l, n, why := bound.Rings(m); !slices.Equal(l, []int{2}) || n != 0 || why != api.OK {
		t.Error(l, n, why)
	}
	l, _, _ := bound.Calls(m, 0)
	n, _, _ := bound.Height(m, 0)
	if loops, _, _ := bound.Loops(m, 0); len(l) != 0 || n != 1 || loops {
		t.Error(l, n, loops)
	}
}

func TestP20_1Calls(t *testing.T) {
	for text, want := range map[string][]int{
		"return":                 nil,
		"call 0; return":         {0},
		"call 2; call 1; return": {1, 2},
		"call 3; call 1; call 3; call 1; call 0; return": {0, 1, 3},
		"return; call 1; return":                         nil, // nothing comes there
		"jump 5; call 1; call 2; return":                 {2},
		"bool 1; unless 8; call 1; return; return":       {1}, // what stands behind an unless is come to, whatever the bool
		"bool 1; unless 7; call 1; call 3; return":       {1, 3},
		"jump 0; call 1":                                 nil,
	} {
		m := texts(t, text, "return", "trap 1", "return")
		if l, at, why := bound.Calls(m, 0); !slices.Equal(l, want) || at != 0 || why != api.OK {
			t.Error(text, l, at, why)
		}
		isTold(t, m)
	}
	// all there may be
	m := texts(t, "")
	for fn := 63; fn >= 0; fn-- {
		m.Funcs[0].Code = append(m.Funcs[0].Code, api.OpCall, byte(fn))
	}
	m.Funcs[0].Code = append(m.Funcs[0].Code, api.OpReturn)
	for range 63 {
		m.Funcs = append(m.Funcs, fun(t, 0, "return", none))
	}
	l, _, why := bound.Calls(m, 0)
	if why != api.OK || len(l) != 64 || !slices.IsSorted(l) || l[63] != 63 {
		t.Error(l, why)
	}
}

func TestP20_1Height(t *testing.T) {
	for text, want := range map[string]int{
		"return": 0, "int 1; pop; return": 1, "int 1; int 2; pop; pop; return": 2, "null; dup; dup; pop; pop; pop; return": 3,
		"bool 1; unless 8; int 1; int 2; int 3; trap 1":                    0, // refused: 8 lies within
		"bool 1; unless 25; int 1; int 2; int 3; int 4; return":            0,
		"bool 1; unless 22; int 1; int 2; int 3; trap 1; return":           3,
		"return; int 1; int 2; int 3; trap 1":                              0,
		"jump 8; int 1; bool 1; bool 0; pop; pop; return":                  2,
		times(24, "null") + "trap 1":                                       24,
		times(25, "null") + "trap 1":                                       0, // refused
		"bool 1; unless 11; null; pop; jump 6; return":                     0, // refused: 6 has two heights
		"null; null; null; null; is; pop; is; pop; return":                 4,
		"call 1; " + times(7, "null") + times(7, "pop") + "call 1; return": 7,
	} {
		m := texts(t, text, "null; null; null; null; null; null; null; null; null; null; trap 1")
		h, at, why := bound.Height(m, 0)
		e, _ := infer.Env(m, 0)
		if _, place, refused := infer.Infer(e, 0, m.Funcs[0].Code); h != want || at != place || why != refused {
			t.Error(text, h, at, why)
		}
		isTold(t, m)
	}
}

func TestP20_1Loops(t *testing.T) {
	for text, want := range map[string]bool{
		"return": false, "trap 1": false,
		"jump 0":                                true,
		"nop; jump 1":                           true, // to itself
		"nop; jump 0":                           true,
		"return; jump 1":                        false, // nothing comes there
		"return; jump 0":                        false,
		"bool 1; unless 0; return":              true,
		"bool 1; unless 5; return":              false,
		"bool 0; pop; jump 7; return; jump 6":   false, // back, but not again
		"jump 4; return; jump 3":                false,
		"jump 6; jump 9; jump 3; return":        false,
		"bool 1; unless 9; nop; jump 9; return": false, // the ways part and meet
		"bool 1; unless 8; jump 12; bool 1; pop; nop; trap 3": false,
		"bool 1; unless 8; jump 8; nop; nop; jump 8":          true,
		"bool 1; unless 5; bool 1; unless 2; return":          false, // refused: 2 has two heights
		"bool 1; unless 11; bool 0; unless 0; nop; return":    true,
		"call 0; return": false, // that is a ring
	} {
		m := texts(t, text)
		loops, at, why := bound.Loops(m, 0)
		e, _ := infer.Env(m, 0)
		if _, place, refused := infer.Infer(e, 0, m.Funcs[0].Code); loops != want || at != place || why != refused {
			t.Error(text, loops, at, why)
		}
		isTold(t, m)
	}
}

func TestP20_1NoSuchFunction(t *testing.T) {
	bad := texts(t, "return", "pop")
	for _, m := range []api.Module{{}, texts(t, "return"), bad, {Funcs: []api.Func{}}, {Classes: make([]api.Class, 40), Funcs: make([]api.Func, 2)}} {
		for _, fn := range samples.Numbers() {
			if fn >= 0 && fn < len(m.Funcs) {
				continue
			}
			l, at, why := bound.Calls(m, fn)
			if l != nil || at != 0 || why != api.ErrArg {
				t.Error(fn, l, at, why)
			}
			if h, at, why := bound.Height(m, fn); h != 0 || at != 0 || why != api.ErrArg {
				t.Error(fn, h, at, why)
			}
			if x, at, why := bound.Loops(m, fn); x || at != 0 || why != api.ErrArg {
				t.Error(fn, x, at, why)
			}
			if b, n, why := bound.Of(m, fn); b != (api.Bounds{}) || n != 0 || why != api.ErrArg {
				t.Error(fn, b, n, why)
			}
		}
	}
}

// refusals are codes that infer refuses, each with the place and the error that it tells.
func refusals() map[string]inferred {
	return map[string]inferred{
		"nop":                      {at: 0, why: api.ErrOff},
		"nop; nop; pop; return":    {at: 2, why: api.ErrUnder},
		"jump 1":                   {at: 1, why: api.ErrOverlap},
		"nop; jump 9":              {at: 1, why: api.ErrTarget},
		"int 1; jump 0":            {at: 0, why: api.ErrShape},
		"int 1; not; return":       {at: 5, why: api.ErrWant},
		"nop; call 9; return":      {at: 1, why: api.ErrFunc},
		"nop; new 4; pop; return":  {at: 1, why: api.ErrMember},
		"nop; load 0; pop; return": {at: 1, why: api.ErrSlot},
		"null; return":             {at: 1, why: api.ErrResult},
		times(25, "null"):          {at: 24, why: api.ErrOver},
		"":                         {at: 0, why: api.ErrOff},
	}
}

func TestP20_1RefusedByInfer(t *testing.T) {
	for text, x := range refusals() {
		m := texts(t, "return", text)
		calls, at, why := bound.Calls(m, 1)
		if calls != nil || at != x.at || why != x.why {
			t.Error(text, calls, at, why)
		}
		if n, at, why := bound.Height(m, 1); n != 0 || at != x.at || why != x.why {
			t.Error(text, n, at, why)
		}
		if loops, at, why := bound.Loops(m, 1); loops || at != x.at || why != x.why {
			t.Error(text, loops, at, why)
		}
		if b, n, why := bound.Of(m, 1); b != (api.Bounds{}) || n != 1 || why != x.why {
			t.Error(text, b, n, why)
		}
		if l, n, why := bound.Rings(m); l != nil || n != 1 || why != x.why {
			t.Error(text, l, n, why)
		}
		isTold(t, m)
	}
}

// What is wrong with the module is told of each function.
func TestP20_1EnvironmentsThatMayNotBe(t *testing.T) {
	with := func(change func(m *api.Module)) api.Module {
		m := texts(t, "call 1; return", "return", "return")
		change(&m)
		return m
	}
	for _, x := range []struct {
		about string
		m     api.Module
		fn    int
		why   api.Errno
	}{
		{"a class", with(func(m *api.Module) { m.Classes[3].Name = "?" }), 0, api.ErrName},
		{"a class", with(func(m *api.Module) { m.Classes[3].Name = "?" }), 1, api.ErrName},
		{"another one's signature", with(func(m *api.Module) { m.Funcs[2].Sig.Result = api.TNull }), 0, api.ErrType},
		{"another one's parameters", with(func(m *api.Module) { m.Funcs[2].Sig.Params = make([]api.Type, 9) }), 1, api.ErrLong},
		{"its locals", with(func(m *api.Module) { m.Funcs[1].Locals = 17 }), 1, api.ErrArg},
		{"its locals", with(func(m *api.Module) { m.Funcs[1].Locals = -1 }), 1, api.ErrArg},
		{"too few locals", with(func(m *api.Module) { m.Funcs[2].Sig.Params = []api.Type{api.TInt} }), 2, api.ErrArg},
		{"too long", with(func(m *api.Module) { m.Funcs[1].Code = make([]byte, 4097) }), 1, api.ErrLong},
		{"too many functions", with(func(m *api.Module) { m.Funcs = slices.Repeat(m.Funcs, 22) }), 65, api.ErrLong},
	} {
		l, at, why := bound.Calls(x.m, x.fn)
		if l != nil || at != 0 || why != x.why {
			t.Error(x.about, l, at, why)
		}
		if b, n, why := bound.Of(x.m, x.fn); b != (api.Bounds{}) || n != x.fn || why != x.why {
			t.Error(x.about, b, n, why)
		}
		isTold(t, x.m)
	}
	// another one's locals and code are its own matter
	m := with(func(m *api.Module) { m.Funcs[2].Locals, m.Funcs[2].Code = 99, nil })
	isBounded(t, "another one", m, 0, api.Bounds{Depth: is(2), Slots: is(0), Steps: is(3), Cells: is(0)})
}

func TestP20_2Rings(t *testing.T) {
	for _, x := range []struct {
		about string
		codes []string
		want  []int
	}{
		{"none", nil, nil},
		{"one", []string{"return"}, nil},
		{"itself", []string{"return", "call 1; return"}, []int{1}},
		{"one another", []string{"call 1; return", "call 0; return"}, []int{0, 1}},
		{"it leads to a ring", []string{"call 1; return", "call 2; return", "call 1; return"}, []int{1, 2}},
		{"a ring leads to it", []string{"call 0; call 1; return", "return"}, []int{0}},
		{"two rings", []string{"call 3; return", "call 1; return", "return", "call 4; call 2; return", "call 0; return"}, []int{0, 1, 3, 4}},
		{"a ring over all", []string{"call 3; return", "call 0; return", "call 1; return", "call 2; return"}, []int{0, 1, 2, 3}},
		{"nothing comes to the call", []string{"return; call 0; return"}, nil},
		{"a call that is not done", []string{"bool 1; unless 6; return; call 0; return"}, []int{0}},
		{"a diamond", []string{"call 1; call 2; return", "call 3; return", "call 3; return", "return"}, nil},
		{"it ends by a trap", []string{"trap 1", "call 0; call 1; trap 2"}, []int{1}},
		{"a loop is no ring", []string{"jump 0", "call 0; jump 0"}, nil},
	} {
		m := texts(t, x.codes...)
		if l, n, why := bound.Rings(m); !slices.Equal(l, x.want) || n != 0 || why != api.OK {
			t.Error(x.about, l, n, why)
		}
		isTold(t, m)
	}
}

func TestP20_2TheFirstThatIsRefused(t *testing.T) {
	for _, x := range []struct {
		codes []string
		n     int
		why   api.Errno
	}{
		{[]string{"return", "pop", "nop"}, 1, api.ErrUnder},
		{[]string{"nop", "pop"}, 0, api.ErrOff},
		{[]string{"call 0; return", "call 2; return", "pop"}, 2, api.ErrUnder}, // rings or not
	} {
		m := texts(t, x.codes...)
		if l, n, why := bound.Rings(m); l != nil || n != x.n || why != x.why {
			t.Error(x.codes, l, n, why)
		}
		isTold(t, m)
	}
	m := api.Module{Funcs: slices.Repeat([]api.Func{{Code: []byte{22}}}, 65)}
	if l, n, why := bound.Rings(m); l != nil || n != 0 || why != api.ErrLong {
		t.Error(l, n, why)
	}
	if l, n, why := bound.Rings(api.Module{Classes: make([]api.Class, 2)}); l != nil || n != 0 || why != api.OK {
		t.Error(l, n, why)
	}
}

func TestP20_3TheLeastThatIsRefused(t *testing.T) {
	for _, x := range []struct {
		about string
		codes []string
		fn, n int
		why   api.Errno
	}{
		{"itself", []string{"return", "pop"}, 1, 1, api.ErrUnder},
		{"one that it calls", []string{"call 1; return", "pop"}, 0, 1, api.ErrUnder},
		{"itself, not what it would call", []string{"pop", "call 0; pop; return"}, 1, 1, api.ErrUnder},
		{"the least of two", []string{"nop", "pop", "call 1; call 0; return"}, 2, 0, api.ErrOff},
		{"over another one", []string{"nop", "call 0; return", "pop", "call 2; call 1; return"}, 3, 0, api.ErrOff},
		{"not what the refused one calls", []string{"nop", "call 0; pop; return", "call 1; return"}, 2, 1, api.ErrUnder},
		{"in a ring", []string{"call 0; call 1; return", "nop"}, 0, 1, api.ErrOff},
		{"a loop", []string{"call 1; jump 0", "nop"}, 0, 1, api.ErrOff},
	} {
		m := texts(t, x.codes...)
		if b, n, why := bound.Of(m, x.fn); b != (api.Bounds{}) || n != x.n || why != x.why {
			t.Error(x.about, b, n, why)
		}
		isTold(t, m)
	}
	// one that does not belong to it
	for _, other := range []string{"pop", "call 1; return", "jump 0", ""} {
		isBounded(t, other, texts(t, "nop; return", other), 0, api.Bounds{Depth: is(1), Slots: is(0), Steps: is(2), Cells: is(0)})
		isBounded(t, "a call to which nothing comes", texts(t, "return; call 1; return", other), 0, api.Bounds{Depth: is(1), Slots: is(0), Steps: is(1), Cells: is(0)})
	}
}

func TestP20_3DepthAndSlots(t *testing.T) {
	m := texts(t, "call 1; call 2; return", "call 3; return", "null; null; null; pop; pop; pop; return", "int 1; int 2; pop; pop; return")
	for fn, locals := range []int{1, 0, 2, 4} {
		m.Funcs[fn].Locals = locals
	}
	isBounded(t, "the greatest of each", m, 0, api.Bounds{Depth: is(3), Slots: is(7), Steps: is(17), Cells: is(0)})
	m.Funcs[2].Locals = 16 // the greatest depth and the greatest slots lie on two ways
	isBounded(t, "two ways", m, 0, api.Bounds{Depth: is(3), Slots: is(20), Steps: is(17), Cells: is(0)})
	isBounded(t, "the lower one", m, 1, api.Bounds{Depth: is(2), Slots: is(6), Steps: is(7), Cells: is(0)})
	// a ring ends it for all who come to it, and for those alone
	m = texts(t, "call 1; return", "call 2; return", "call 1; return", "return", "call 3; return")
	for fn := range 3 {
		isBounded(t, "to a ring", m, fn, api.Bounds{})
	}
	isBounded(t, "beside a ring", m, 4, api.Bounds{Depth: is(2), Slots: is(0), Steps: is(3), Cells: is(0)})
	// a loop does not
	m = texts(t, "call 1; return", "nop; jump 0")
	isBounded(t, "a loop", m, 0, api.Bounds{Depth: is(2), Slots: is(0)})
}

// As deep as there are functions, each with as many slots as there may be.
func TestP20_3AsDeepAsCanBe(t *testing.T) {
	m := over()
	for fn := range 64 {
		text := times(8, "null") + times(8, "pop")
		if fn < 63 {
			text += "call " + show(fn+1) + "; "
		}
		m.Funcs = append(m.Funcs, fun(t, 16, text+"return", none))
	}
	isBounded(t, "64", m, 0, api.Bounds{Depth: is(64), Slots: is(64 * 24), Steps: is(64*18 - 1), Cells: is(0)})
	m.Funcs[63] = fun(t, 0, "call 63; return", none)
	isBounded(t, "with a ring at its end", m, 0, api.Bounds{})
	// each calls all that stand behind it
	m = over()
	for fn := range 64 {
		text := ""
		for n := fn + 1; n < 64; n++ {
			text += "call " + show(n) + "; "
		}
		m.Funcs = append(m.Funcs, fun(t, 1, text+"return", none))
	}
	isBounded(t, "all", m, 0, api.Bounds{Depth: is(64), Slots: is(64), Cells: is(0)})
	isBounded(t, "some", m, 60, api.Bounds{Depth: is(4), Slots: is(4), Steps: is(15), Cells: is(0)})
}

func TestP20_3Steps(t *testing.T) {
	for _, x := range []struct {
		about, text string
		want        int
	}{
		{"one", "return", 1},
		{"a trap", "nop; trap 3", 2},
		{"behind the end", "return; nop; nop; return", 1},
		{"the longer way falls through", "bool 1; unless 8; nop; nop; nop; return", 6},
		{"the longer way jumps", "bool 1; unless 6; return; nop; nop; nop; return", 6},
		{"both ways are one", "bool 1; unless 5; return", 3},
		{"they meet", "bool 1; unless 10; nop; nop; jump 10; nop; return", 7},
		{"they meet, and part again", "bool 1; unless 8; nop; nop; nop; bool 0; unless 14; nop; return", 9},
		{"back, without a loop", "jump 6; nop; nop; return; nop; jump 3", 6},
		{"a way to a trap", "bool 1; unless 7; trap 1; nop; nop; return", 5},
		{"the longest ends by a trap", "bool 1; unless 9; nop; nop; trap 1; return", 5},
		{"a call", "call 1; return", 6},
		{"calls on one way", "bool 1; unless 7; call 1; call 2; return", 15},
		{"calls on the other one", "bool 1; unless 8; call 1; return; call 2; return", 10},
		{"what is called may be trapped", "call 3; call 1; return", 9},
	} {
		m := texts(t, x.text, "nop; nop; nop; return", "nop; nop; nop; nop; nop; return", "nop; trap 1")
		b, _, why := bound.Of(m, 0)
		if why != api.OK || b.Steps != is(x.want) {
			t.Error(x.about, b, why)
		}
		isTold(t, m)
	}
	for _, text := range []string{"jump 0", "bool 1; unless 0; return", "nop; call 1; jump 1"} {
		m := texts(t, text, "return", "call 0; return", "return; call 0; return")
		b, _, why := bound.Of(m, 0)
		c, _, _ := bound.Of(m, 2)
		if e, _, _ := bound.Of(m, 3); why != api.OK || b.Steps != not() || c.Steps != not() || b.Cells != not() || c.Cells != not() || !b.Depth.Is || !c.Depth.Is || e.Steps != is(1) {
			t.Error(text, b, c, e, why)
		}
		isTold(t, m)
	}
}

// doubling is functions the first of which takes 2^20 - 3 steps and so many more: each calls the next one twice.
func doubling(t *testing.T, more int) api.Module {
	m := texts(t, times(more, "nop")+"call 1; call 1; return")
	for fn := 1; fn < 18; fn++ {
		m.Funcs = append(m.Funcs, fun(t, 0, times(2, "call "+show(fn+1))+"return", none))
	}
	m.Funcs = append(m.Funcs, fun(t, 0, "return", none))
	return m
}

func TestP20_3StepsAtMaxFuel(t *testing.T) {
	for more, want := range map[int]api.Reckoned{0: is(1<<20 - 3), 2: is(1<<20 - 1), 3: is(1 << 20), 4: not(), 5: not(), 900: not()} {
		isBounded(t, show(more), doubling(t, more), 0, api.Bounds{Depth: is(19), Slots: is(0), Steps: want, Cells: is(0)})
	}
	// who calls what has none has none, whatever else it does; on a way that is not gone, too
	m := doubling(t, 4)
	m.Funcs = append(m.Funcs, fun(t, 0, "bool 1; unless 7; call 0; return", none), fun(t, 0, "call 1; return", none))
	isBounded(t, "on one way", m, 19, api.Bounds{Depth: is(20), Slots: is(1), Cells: is(0)})
	isBounded(t, "the half of it", m, 20, api.Bounds{Depth: is(19), Slots: is(0), Steps: is(1<<19 - 1), Cells: is(0)})
}

// Sums that no number holds.
func TestP20_3SumsWithoutEnd(t *testing.T) {
	m := over()
	for fn := range 63 {
		m.Funcs = append(m.Funcs, fun(t, 0, "new 2; pop; "+times(1300, "call "+show(fn+1))+"return", none))
	}
	m.Funcs = append(m.Funcs, fun(t, 0, "new 2; pop; return", none))
	isBounded(t, "all", m, 0, api.Bounds{Depth: is(64), Slots: is(64)})
	isBounded(t, "two", m, 62, api.Bounds{Depth: is(2), Slots: is(2), Steps: is(4*1300 + 3)})
}

func TestP20_3Cells(t *testing.T) {
	for _, x := range []struct {
		about, text string
		want        int
	}{
		{"none", "return", 0},
		{"a shape: x", "new 0; pop; return", 2},
		{"a disc: x, r", "new 1; pop; return", 3},
		{"a box: x, w, in", "new 2; pop; return", 4},
		{"a list: next", "new 3; pop; return", 2},
		{"all", "new 0; new 1; new 2; new 3; is; pop; is; pop; return", 11},
		{"the greater way", "bool 1; unless 12; new 0; pop; new 0; pop; return; new 1; pop; return", 4},
		{"the other one", "bool 1; unless 9; new 0; pop; return; new 2; pop; return", 4},
		{"the longer way is not the greater one", "bool 1; unless 11; nop; nop; nop; nop; nop; return; new 0; pop; return", 2},
		{"nothing comes there", "return; new 0; pop; return", 0},
		{"nothing comes to a make", "return; int 1; make; pop; return", 0},
		{"calls", "call 1; call 1; new 3; pop; return", 10},
		{"a call on each way", "bool 1; unless 8; call 1; return; call 2; return", 12},
	} {
		m := texts(t, x.text, "new 2; pop; return", "new 2; new 2; new 2; is; pop; pop; return")
		b, _, why := bound.Of(m, 0)
		if why != api.OK || b.Cells != is(x.want) {
			t.Error(x.about, b, why)
		}
		isTold(t, m)
	}
	for _, text := range []string{"int 1; make; pop; return", "int 0; make; pop; return", "bool 1; unless 6; return; int 1; make; pop; return", "call 1; return"} {
		m := texts(t, text, "int 1; make; pop; return", "call 0; return")
		b, _, why := bound.Of(m, 0)
		if c, _, _ := bound.Of(m, 2); why != api.OK || b.Cells != not() || c.Cells != not() || !b.Steps.Is || !c.Steps.Is {
			t.Error(text, b, c, why)
		}
		isTold(t, m)
	}
}

// eights is a function that takes so many cells, eight by eight, and then one by one.
func eights(t *testing.T, eight, one int) api.Module {
	m := texts(t, times(eight, "new 0; pop")+times(one, "new 1; pop")+"return", "call 0; return")
	m.Classes = []api.Class{{Name: "p", Parent: -1}, {Name: "q", Parent: -1}}
	for _, name := range []string{"a", "b", "c", "d", "e", "f", "g"} {
		m.Classes[0].Fields = append(m.Classes[0].Fields, api.Field{Name: name, Type: api.TInt})
	}
	return m
}

func TestP20_3CellsAtMaxRoom(t *testing.T) {
	for _, x := range []struct {
		eight, one int
		want       api.Reckoned
	}{{511, 7, is(4095)}, {512, 0, is(4096)}, {511, 8, is(4096)}, {512, 1, not()}, {511, 9, not()}, {600, 0, not()}} {
		m := eights(t, x.eight, x.one)
		steps := 2*(x.eight+x.one) + 1
		isBounded(t, show(x), m, 0, api.Bounds{Depth: is(1), Slots: is(1), Steps: is(steps), Cells: x.want})
		isBounded(t, show(x), m, 1, api.Bounds{Depth: is(2), Slots: is(1), Steps: is(steps + 2), Cells: x.want})
	}
	// the whole is above it, though no function by itself is
	m := eights(t, 512, 0)
	m.Funcs = append(m.Funcs, fun(t, 0, "call 0; new 1; pop; return", none), fun(t, 0, "bool 1; unless 8; call 0; return; new 1; pop; return", none))
	isBounded(t, "one more", m, 2, api.Bounds{Depth: is(2), Slots: is(2), Steps: is(1029)})
	isBounded(t, "on the other way", m, 3, api.Bounds{Depth: is(2), Slots: is(2), Steps: is(1029), Cells: is(4096)})
}

// All fields of a class are counted, its line's too.
func TestP20_3FieldsInAll(t *testing.T) {
	m := texts(t, "new 31; pop; return", "new 0; pop; return")
	m.Classes = samples.Chain(32)
	for c := range m.Classes {
		m.Classes[c].Fields = []api.Field{{Name: "x" + show(c), Type: api.TAny}}
	}
	isBounded(t, "32 fields", m, 0, api.Bounds{Depth: is(1), Slots: is(1), Steps: is(3), Cells: is(33)})
	isBounded(t, "one field", m, 1, api.Bounds{Depth: is(1), Slots: is(1), Steps: is(3), Cells: is(2)})
}

// Code that flow.Check would refuse, where nothing comes, is nothing to bounds.
func TestP20_3WhatIsNotReached(t *testing.T) {
	m := texts(t, "return")
	for _, junk := range [][]byte{{255}, {2, 2}, {19, 0, 99}, {1}, {21, 9}} {
		m.Funcs[0].Code = append([]byte{api.OpJump, 0, byte(3 + len(junk))}, append(bytes.Clone(junk), api.OpReturn)...)
		isBounded(t, show(junk), m, 0, api.Bounds{Depth: is(1), Slots: is(0), Steps: is(2), Cells: is(0)})
	}
}

func TestP20_3AsTheDiceFall(t *testing.T) {
	d, bounded, unlike := dice(1), 0, map[api.Bounds]int{}
	for range 800 {
		l := []api.Module{ahead(&d, 1+d.Below(7)), samples.Module(&d, 1+d.Below(5)), compiled(t, samples.Source(&d, 1+d.Below(8)))}
		for _, m := range l[:3] {
			l = append(l, spoilt(&d, m))
		}
		for _, m := range l {
			isTold(t, m)
			if b, _, _ := bound.Of(m, 0); b.Steps.Is && b.Cells.Is && b.Depth.Most > 1 {
				bounded++
				unlike[b]++
			}
		}
	}
	if bounded < 400 || len(unlike) < 200 {
		t.Error("few", bounded, len(unlike))
	}
}
