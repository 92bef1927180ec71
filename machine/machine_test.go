package machine_test

import (
	"bytes"
	"math"
	"slices"
	"testing"

	"proviso/api"
	"proviso/machine"
	"proviso/samples"
)

const (
	none  = api.TTop
	shape = samples.Shape
	disc  = samples.Disc
	box   = samples.Box
	list  = samples.List
)

func TestP17_1Examples(t *testing.T) {
	more := over(fun(t, 1, "load 0; int 1; add; return", api.TInt, api.TInt))
	try{more, 0, []int{4}, 100, 0}.comesTo(t, "one more", api.Outcome{Result: 5, Steps: 4})
	try{more, 0, []int{4}, 3, 0}.comesTo(t, "fuel 3", api.Outcome{Err: api.ErrFuel, Steps: 3})
	for text, want := range map[string]api.Outcome{
		"add; return":               {Err: api.ErrStuck, Steps: 1},
		"int 1; int 0; div; return": {Err: api.ErrTrap, Trap: 1, Steps: 3},
		"jump 9":                    {Err: api.ErrStuck, Steps: 2},
	} {
		try{over(fun(t, 0, text, none)), 0, nil, 100, 0}.comesTo(t, text, want)
	}
}

// many is a module of n functions that do nothing.
func many(n int) api.Module {
	return api.Module{Funcs: slices.Repeat([]api.Func{{Code: []byte{api.OpReturn}}}, n)}
}

// isRefused holds all three calls that begin a run against an error ahead of it.
func isRefused(t *testing.T, about string, x try, why api.Errno) {
	t.Helper()
	want := show(api.Outcome{Err: why})
	if o := x.guarded(); show(o) != want {
		t.Errorf("%s: Guarded: %+v, wanted %v", about, o, why)
	}
	if o := x.bare(); show(o) != want {
		t.Errorf("%s: Bare: %+v, wanted %v", about, o, why)
	}
	if x.fuel < 0 || x.fuel > api.MaxFuel {
		return
	}
	if r, e := machine.Begin(x.m, x.entry, x.args, x.room); r != nil || e != why {
		t.Errorf("%s: Begin: %v, wanted %v", about, e, why)
	}
}

// isBegun holds all three against none.
func isBegun(t *testing.T, about string, x try) {
	t.Helper()
	if a, b := x.guarded(), x.bare(); a.Err == api.ErrArg || a.Err == api.ErrFunc || a.Err == api.ErrArgs || show(a) != show(b) {
		t.Errorf("%s: %+v, %+v", about, a, b)
	}
	if r, why := machine.Begin(x.m, x.entry, x.args, x.room); r == nil || why != api.OK {
		t.Errorf("%s: Begin: %v", about, why)
	}
}

func TestP17_1ModulesThatCanNotBeRun(t *testing.T) {
	ints := func(n int) []api.Type { return slices.Repeat([]api.Type{api.TInt}, n) }
	// The module's second function is one that is changed: the entry alone does not tell.
	with := func(change func(f *api.Func)) api.Module {
		m := many(2)
		m.Classes = samples.Shapes()
		change(&m.Funcs[1])
		return m
	}
	for about, x := range map[string]struct {
		m    api.Module
		best bool
	}{
		"no functions":     {api.Module{Name: "m", Classes: samples.Shapes()}, false},
		"one":              {many(1), true},
		"64":               {many(64), true},
		"65":               {many(65), false},
		"32 classes":       {api.Module{Classes: samples.Chain(32), Funcs: many(1).Funcs}, true},
		"33 classes":       {api.Module{Classes: samples.Chain(33), Funcs: many(1).Funcs}, false},
		"a class twice":    {api.Module{Classes: append(samples.Shapes(), samples.Shapes()[0]), Funcs: many(1).Funcs}, false},
		"no name":          {api.Module{Name: "1", Funcs: []api.Func{{Name: "", Code: []byte{22}}}, Certs: [][]byte{nil, nil}}, true},
		"8 parameters":     {with(func(f *api.Func) { f.Sig.Params, f.Locals = ints(8), 8 }), true},
		"9 parameters":     {with(func(f *api.Func) { f.Sig.Params, f.Locals = ints(9), 9 }), false},
		"a class":          {with(func(f *api.Func) { f.Sig.Params, f.Locals = []api.Type{list}, 1 }), true},
		"no class":         {with(func(f *api.Func) { f.Sig.Params, f.Locals = []api.Type{list + 1}, 1 }), false},
		"of no type":       {with(func(f *api.Func) { f.Sig.Params, f.Locals = []api.Type{api.TTop}, 1 }), false},
		"null":             {with(func(f *api.Func) { f.Sig.Params, f.Locals = []api.Type{api.TNull}, 1 }), false},
		"6":                {with(func(f *api.Func) { f.Sig.Params, f.Locals = []api.Type{6}, 1 }), false},
		"gives a class":    {with(func(f *api.Func) { f.Sig.Result = list }), true},
		"gives none":       {with(func(f *api.Func) { f.Sig.Result = list + 1 }), false},
		"gives null":       {with(func(f *api.Func) { f.Sig.Result = api.TNull }), false},
		"gives 255":        {with(func(f *api.Func) { f.Sig.Result = 255 }), false},
		"16 locals":        {with(func(f *api.Func) { f.Locals = 16 }), true},
		"17 locals":        {with(func(f *api.Func) { f.Locals = 17 }), false},
		"-1 locals":        {with(func(f *api.Func) { f.Locals = -1 }), false},
		"huge locals":      {with(func(f *api.Func) { f.Locals = math.MaxInt }), false},
		"fewer locals":     {with(func(f *api.Func) { f.Sig.Params, f.Locals = ints(3), 2 }), false},
		"as many locals":   {with(func(f *api.Func) { f.Sig.Params, f.Locals = ints(3), 3 }), true},
		"4096 bytes":       {with(func(f *api.Func) { f.Code = make([]byte, 4096) }), true},
		"4097 bytes":       {with(func(f *api.Func) { f.Code = make([]byte, 4097) }), false},
		"no code":          {with(func(f *api.Func) { f.Code = nil }), true},
		"code of any kind": {with(func(f *api.Func) { f.Code = []byte{255, 255} }), true},
	} {
		if x.best {
			isBegun(t, about, try{x.m, 0, nil, 9, 0})
			continue
		}
		isRefused(t, about, try{x.m, 0, nil, 9, 0}, api.ErrArg)
		isRefused(t, about+", ahead of ErrFunc", try{x.m, 99, []int{1}, 9, 0}, api.ErrArg)
		isRefused(t, about+", ahead of ErrArgs", try{x.m, 0, []int{1}, 9, 0}, api.ErrArg)
	}
}

func TestP17_1FuelAndRoomOutOfRange(t *testing.T) {
	m := over(fun(t, 0, "new 1; pop; jump 0", none))
	for _, n := range append(samples.Numbers(), api.MaxFuel-1, api.MaxFuel, api.MaxFuel+1) {
		x := try{m, 0, nil, n, api.MaxRoom}
		switch o := x.guarded(); {
		case n < 0 || n > api.MaxFuel:
			isRefused(t, "fuel", x, api.ErrArg)
			isRefused(t, "fuel, no function", try{m, 1, nil, n, 0}, api.ErrArg)
			isRefused(t, "fuel, no argument", try{m, 0, []int{1}, n, 0}, api.ErrArg)
		case o.Steps != min(n, 3*1365+1) || show(o) != show(x.bare()):
			t.Error(n, o)
		}
		x = try{m, 0, nil, 2000, n}
		switch o := x.guarded(); {
		case n < 0 || n > api.MaxRoom:
			isRefused(t, "room", x, api.ErrArg)
			isRefused(t, "room, no function", try{m, -1, nil, 9, n}, api.ErrArg)
			isRefused(t, "room, no argument", try{m, 0, []int{1}, 9, n}, api.ErrArg)
		case o.Cells != min(n/3, 667)*3 || show(o) != show(x.bare()):
			t.Error(n, o)
		}
	}
}

func TestP17_1EntriesThatAreNoFunctions(t *testing.T) {
	m := over(fun(t, 0, "return", none), fun(t, 1, "int 7; return", api.TInt, api.TBool))
	for _, n := range samples.Numbers() {
		if n < 0 || n > 1 {
			isRefused(t, "entry", try{m, n, nil, 9, 0}, api.ErrFunc)
			isRefused(t, "entry, ahead of ErrArgs", try{m, n, []int{2, 3, 4}, 9, 0}, api.ErrFunc)
		}
	}
	try{m, 0, nil, 9, 0}.comesTo(t, "the first", api.Outcome{Steps: 1})
	try{m, 1, []int{0}, 9, 0}.comesTo(t, "the last", api.Outcome{Steps: 2, Result: 7})
	m.Funcs = append(m.Funcs, fun(t, 0, "return", none))[:2]
	isRefused(t, "behind the list's end", try{m, 2, nil, 9, 0}, api.ErrFunc)
}

func TestP17_1ArgumentsThatAreNotTaken(t *testing.T) {
	m := over(
		fun(t, 2, "load 0; return", api.TInt, api.TInt, api.TBool),
		fun(t, 1, "return", none, api.TAny),
		fun(t, 1, "return", none, disc),
		fun(t, 1, "return", none, api.TInts),
		fun(t, 3, "return", none),
	)
	for _, args := range [][]int{nil, {}, {1}, {1, 1, 1}, {1, 2}, {1, -1}, {1 << 31, 0}, {-1<<31 - 1, 0}, {math.MaxInt, 0}, {math.MinInt, 1}, {1 << 32, 0}, {1, 1 << 32}, {0, math.MinInt}} {
		isRefused(t, "", try{m, 0, args, 9, 0}, api.ErrArgs)
	}
	for _, args := range [][]int{{0, 0}, {-1 << 31, 1}, {1<<31 - 1, 0}, []int{1, 1, 1}[:2]} {
		try{m, 0, args, 9, 0}.comesTo(t, "taken", api.Outcome{Steps: 2, Result: args[0]})
	}
	for entry := 1; entry < 4; entry++ {
		for _, args := range [][]int{nil, {0}, {1}} {
			isRefused(t, "no reference comes from outside", try{m, entry, args, 9, 0}, api.ErrArgs)
		}
	}
	isRefused(t, "one more", try{m, 4, []int{0}, 9, 0}, api.ErrArgs)
	try{m, 4, nil, 9, 0}.comesTo(t, "none", api.Outcome{Steps: 1})
	try{m, 4, []int{}, 9, 0}.comesTo(t, "none", api.Outcome{Steps: 1})
}

func TestP17_1WhatInstructionsDo(t *testing.T) {
	for _, x := range []struct {
		text   string
		result api.Type
		want   int
		steps  int
	}{
		{"nop; nop; int -5; nop; return", api.TInt, -5, 5},
		{"int 2147483647; return", api.TInt, math.MaxInt32, 2},
		{"int -2147483648; return", api.TInt, math.MinInt32, 2},
		{"bool 0; return", api.TBool, 0, 2},
		{"bool 1; return", api.TBool, 1, 2},
		{"null; return", api.TAny, 0, 2},
		{"int 3; store 0; int 4; store 1; load 0; return", api.TInt, 3, 6},
		{"int 3; store 0; bool 1; store 0; load 0; return", api.TBool, 1, 6},
		{"int 3; dup; store 0; load 0; load 0; add; add; return", api.TInt, 9, 8},
		{"int 3; int 4; pop; return", api.TInt, 3, 4},
		{"int 3; dup; mul; return", api.TInt, 9, 4},
		{"int 7; int 2; swap; sub; return", api.TInt, -5, 5},
		{"int 7; bool 1; swap; pop; return", api.TBool, 1, 5},
		{"int 7; int 2; sub; return", api.TInt, 5, 4},
		{"int 2147483647; int 1; add; return", api.TInt, math.MinInt32, 4},
		{"int -2147483648; int 1; sub; return", api.TInt, math.MaxInt32, 4},
		{"int 65536; int 65536; mul; return", api.TInt, 0, 4},
		{"int 65536; int 32768; mul; return", api.TInt, math.MinInt32, 4},
		{"int 2147483647; int 2147483647; mul; return", api.TInt, 1, 4},
		{"int 7; int 2; div; return", api.TInt, 3, 4},
		{"int -7; int 2; div; return", api.TInt, -3, 4},
		{"int 7; int -2; div; return", api.TInt, -3, 4},
		{"int -7; int -2; div; return", api.TInt, 3, 4},
		{"int 7; int -2; rem; return", api.TInt, 1, 4},
		{"int -7; int 2; rem; return", api.TInt, -1, 4},
		{"int -2147483648; int -1; div; return", api.TInt, math.MinInt32, 4},
		{"int -2147483648; int -1; rem; return", api.TInt, 0, 4},
		{"int 0; int 5; div; return", api.TInt, 0, 4},
		{"int 5; neg; return", api.TInt, -5, 3},
		{"int -2147483648; neg; return", api.TInt, math.MinInt32, 3},
		{"int 1; int 2; less; return", api.TBool, 1, 4},
		{"int 2; int 1; less; return", api.TBool, 0, 4},
		{"int 2; int 2; less; return", api.TBool, 0, 4},
		{"int -2147483648; int 2147483647; less; return", api.TBool, 1, 4},
		{"int 2; int 2; same; return", api.TBool, 1, 4},
		{"int 2; int -2; same; return", api.TBool, 0, 4},
		{"bool 0; bool 0; same; return", api.TBool, 1, 4},
		{"bool 1; bool 0; same; return", api.TBool, 0, 4},
		{"bool 1; not; return", api.TBool, 0, 3},
		{"bool 0; not; return", api.TBool, 1, 3},
		{"null; null; is; return", api.TBool, 1, 4},
		{"new 0; dup; is; return", api.TBool, 1, 4},
		{"new 0; new 0; is; return", api.TBool, 0, 4},
		{"new 0; null; is; return", api.TBool, 0, 4},
		{"new 0; int 1; make; is; return", api.TBool, 0, 5},
		{"jump 5; nop; nop; int 1; return", api.TInt, 1, 3},
		{"bool 1; unless 11; int 1; return; int 2; return", api.TInt, 1, 4},
		{"bool 0; unless 11; int 1; return; int 2; return", api.TInt, 2, 4},
		{"new 0; pop; new 3; return", api.TAny, 2, 4},
		{"new 2; get 2 0; return", api.TInt, 0, 3},
		{"new 2; get 2 2; return", api.TAny, 0, 3},
		{"new 2; store 0; load 0; int 6; put 2 1; load 0; get 2 1; return", api.TInt, 6, 8},
		{"new 2; store 0; load 0; int 6; put 0 0; load 0; get 2 0; return", api.TInt, 6, 8},
		{"new 1; new 2; dup; store 0; swap; put 2 2; load 0; get 2 2; return", api.TAny, 1, 9},
		{"new 3; dup; dup; put 3 0; get 3 0; return", api.TAny, 1, 6},
		{"int 0; make; len; return", api.TInt, 0, 4},
		{"int 7; make; len; return", api.TInt, 7, 4},
		{"int 2; make; int 1; at; return", api.TInt, 0, 5},
		{"int 2; make; store 0; load 0; int 0; int 8; set; load 0; int 1; int 9; set; load 0; int 0; at; return", api.TInt, 8, 15},
		{"int 2; make; store 0; load 0; int 0; int 8; set; load 0; int 1; int -9; set; load 0; int 1; at; return", api.TInt, -9, 15},
		{"null; cast 1; return", api.TAny, 0, 3},
		{"new 1; cast 1; return", disc, 1, 3},
		{"new 1; cast 0; return", shape, 1, 3},
		{"null; test 1; return", api.TBool, 0, 3},
		{"new 1; test 1; return", api.TBool, 1, 3},
		{"new 1; test 0; return", api.TBool, 1, 3},
		{"new 0; test 1; return", api.TBool, 0, 3},
		{"new 2; test 1; return", api.TBool, 0, 3},
		{"new 3; test 0; return", api.TBool, 0, 3},
		{"int 1; make; test 0; return", api.TBool, 0, 4},
	} {
		m := over(fun(t, 2, x.text, x.result))
		o := try{m, 0, nil, 100, 40}.guarded()
		try{m, 0, nil, 100, 40}.comesTo(t, x.text, api.Outcome{Result: x.want, Steps: x.steps, Cells: o.Cells})
	}
}

func TestP17_1Calls(t *testing.T) {
	isInt, gives := []api.Type{api.TInt, api.TInt}, api.TInt
	sub := fun(t, 2, "load 0; load 1; sub; return", gives, isInt...)
	for _, x := range []struct {
		about string
		l     []api.Func
		want  api.Outcome
	}{
		{"the first is the lowest", []api.Func{fun(t, 0, "int 9; int 2; call 1; return", gives), sub}, api.Outcome{Result: 7, Steps: 8}},
		{"what lies below stays", []api.Func{fun(t, 0, "int 100; int 9; int 2; call 1; add; return", gives), sub}, api.Outcome{Result: 107, Steps: 10}},
		{"variables are a call's own", []api.Func{fun(t, 1, "int 5; store 0; call 1; load 0; return", gives), fun(t, 1, "int 6; store 0; return", none)}, api.Outcome{Result: 5, Steps: 8}},
		{"nothing is given", []api.Func{fun(t, 0, "call 1; return", none), fun(t, 0, "return", none)}, api.Outcome{Steps: 3}},
		{"nothing is given, though a call within was", []api.Func{fun(t, 0, "int 3; int 1; call 1; pop; return", none), sub}, api.Outcome{Steps: 9}},
		{"a bool", []api.Func{fun(t, 0, "call 1; not; return", api.TBool), fun(t, 0, "bool 0; return", api.TBool)}, api.Outcome{Result: 1, Steps: 5}},
		{"null for a class", []api.Func{fun(t, 0, "null; call 1; return", api.TAny), fun(t, 1, "load 0; return", disc, disc)}, api.Outcome{Steps: 5}},
		{"one below for a class", []api.Func{fun(t, 0, "new 1; call 1; return", api.TAny), fun(t, 1, "load 0; return", shape, shape)}, api.Outcome{Result: 1, Steps: 5, Cells: 3}},
		{"objects are the run's", []api.Func{fun(t, 1, "new 0; store 0; load 0; call 1; load 0; get 0 0; return", gives), fun(t, 1, "load 0; int 4; put 0 0; return", none, shape)}, api.Outcome{Result: 4, Steps: 11, Cells: 2}},
		{"it calls itself", []api.Func{fun(t, 1, "bool 1; call 1; return", gives), fun(t, 1, "load 0; unless 16; bool 0; call 1; int 1; add; return; int 10; return", gives, api.TBool)}, api.Outcome{Result: 11, Steps: 14}},
	} {
		try{over(x.l...), 0, nil, 99, 40}.comesTo(t, x.about, x.want)
	}
}

// fac is n!, by calls within one another; of 0 and below 1.
func fac(t *testing.T) api.Module {
	return over(fun(t, 1, "int 0; load 0; less; unless 25; load 0; load 0; int 1; sub; call 0; mul; return; int 1; return", api.TInt, api.TInt))
}

func TestP17_1CallsWithinOneAnother(t *testing.T) {
	m := fac(t)
	for n, want := range []int{1, 1, 2, 6, 24, 120} {
		try{m, 0, []int{n}, 200, 0}.comesTo(t, "fac", api.Outcome{Result: want, Steps: 11*n + 6})
	}
	try{m, 0, []int{12}, 200, 0}.comesTo(t, "fac", api.Outcome{Result: 479001600, Steps: 11*12 + 6})
	try{m, 0, []int{13}, 200, 0}.comesTo(t, "it wraps round", api.Outcome{Result: 1932053504, Steps: 11*13 + 6})
	try{m, 0, []int{63}, 2000, 0}.comesTo(t, "64 calls", api.Outcome{Result: 0, Steps: 11*63 + 6})
	try{m, 0, []int{64}, 2000, 0}.comesTo(t, "65 calls", api.Outcome{Err: api.ErrTrap, Trap: api.TrapDepth, Steps: 64 * 9})
	again := over(fun(t, 0, "call 1; call 1; return", none), fun(t, 0, "return", none))
	again.Funcs[0].Code = append(bytes.Repeat([]byte{api.OpCall, 1}, 2000), api.OpReturn)
	try{again, 0, nil, 9999, 0}.comesTo(t, "calls that have ended don't count", api.Outcome{Steps: 4001})
}

func TestP17_1Traps(t *testing.T) {
	const divide, null, index, size, cast, room, depth = api.TrapDivide, api.TrapNull, api.TrapIndex, api.TrapSize, api.TrapCast, api.TrapRoom, api.TrapDepth
	for _, x := range []struct {
		text              string
		trap, steps, room int
		cells             int
	}{
		{"int 7; int 0; div", divide, 3, 0, 0},
		{"int 7; int 0; rem", divide, 3, 0, 0},
		{"int 0; int 0; div", divide, 3, 0, 0},
		{"null; get 0 0", null, 2, 0, 0},
		{"null; get 2 2", null, 2, 0, 0},
		{"null; int 1; put 0 0", null, 3, 0, 0},
		{"null; null; put 2 2", null, 3, 0, 0},
		{"int -1; make", size, 2, 4096, 0},
		{"int -2147483648; make", size, 2, 0, 0},
		{"int 0; make", room, 2, 0, 0},
		{"int 0; make; pop; int 0; make", room, 5, 1, 1},
		{"int 2; make; pop; int 2; make", room, 5, 5, 3},
		{"int 4096; make", room, 2, 4096, 0},
		{"int 4095; make; pop; int 0; make", room, 5, 4096, 4096},
		{"int 2147483647; make", room, 2, 4096, 0},
		{"new 0", room, 1, 0, 0},
		{"new 0", room, 1, 1, 0},
		{"new 2; pop; new 2", room, 3, 7, 4},
		{"null; len", null, 2, 0, 0},
		{"null; int 0; at", null, 3, 0, 0},
		{"null; int -1; at", null, 3, 0, 0},
		{"null; int 5; int 1; set", null, 4, 0, 0},
		{"int 0; make; int 0; at", index, 4, 1, 1},
		{"int 2; make; int 2; at", index, 4, 3, 3},
		{"int 2; make; int -1; at", index, 4, 3, 3},
		{"int 2; make; int 2147483647; at", index, 4, 3, 3},
		{"int 2; make; int -2147483648; at", index, 4, 3, 3},
		{"int 2; make; int 2; int 1; set", index, 5, 3, 3},
		{"int 2; make; int -1; int 1; set", index, 5, 3, 3},
		{"new 0; cast 1", cast, 2, 9, 2},
		{"new 1; cast 2", cast, 2, 9, 3},
		{"new 0; cast 3", cast, 2, 9, 2},
		{"int 1; make; cast 0", cast, 3, 9, 2},
		{"trap 0", api.TrapOwn, 1, 0, 0},
		{"nop; trap 200", api.TrapOwn + 200, 2, 0, 0},
		{"trap 255", api.TrapOwn + 255, 1, 0, 0},
		{"call 0", depth, 64, 0, 0},
		{"nop; call 0", depth, 128, 0, 0},
	} {
		m := over(fun(t, 0, x.text, none))
		want := api.Outcome{Err: api.ErrTrap, Trap: x.trap, Steps: x.steps, Cells: x.cells}
		try{m, 0, nil, 200, x.room}.comesTo(t, x.text, want)
		try{m, 0, nil, x.steps, x.room}.comesTo(t, x.text+": just enough fuel", want)
		o := try{m, 0, nil, x.steps - 1, x.room}.guarded()
		if o.Err != api.ErrFuel || o.Trap != 0 || o.Steps != x.steps-1 {
			t.Error(x.text, "one less", o)
		}
	}
}

func TestP17_1Told(t *testing.T) {
	m := over(fun(t, 0, "int 7; tell; int -2147483648; tell; int 0; tell; trap 2", none))
	try{m, 0, nil, 99, 0}.comesTo(t, "told and trapped", api.Outcome{Err: api.ErrTrap, Trap: 18, Steps: 7, Told: []int{7, math.MinInt32, 0}})
	try{m, 0, nil, 3, 0}.comesTo(t, "told so far", api.Outcome{Err: api.ErrFuel, Steps: 3, Told: []int{7}})
	try{m, 0, nil, 4, 0}.comesTo(t, "told so far", api.Outcome{Err: api.ErrFuel, Steps: 4, Told: []int{7, math.MinInt32}})
	m = over(fun(t, 0, "int 5; tell; bool 1; tell", none))
	try{m, 0, nil, 99, 0}.comesTo(t, "told and stuck", api.Outcome{Err: api.ErrStuck, Steps: 4, Told: []int{5}})
	m = over(fun(t, 0, "int 5; tell; jump 0", none))
	all := slices.Repeat([]int{5}, 1024)
	try{m, 0, nil, 3*1024 + 1, 0}.comesTo(t, "1024", api.Outcome{Err: api.ErrFuel, Steps: 3*1024 + 1, Told: all})
	try{m, 0, nil, 5000, 0}.comesTo(t, "1025", api.Outcome{Err: api.ErrTrap, Trap: api.TrapTold, Steps: 3*1024 + 2, Told: all})
}

func TestP17_1FuelJustEnough(t *testing.T) {
	m := over(fun(t, 1, "new 0; pop; load 0; tell; load 0; return", api.TInt, api.TInt))
	want := api.Outcome{Result: 3, Steps: 6, Cells: 2, Told: []int{3}}
	for _, fuel := range []int{6, 7, 100, api.MaxFuel} {
		try{m, 0, []int{3}, fuel, 2}.comesTo(t, "enough", want)
	}
	for fuel := range 6 {
		less := api.Outcome{Err: api.ErrFuel, Steps: fuel}
		if fuel > 0 {
			less.Cells = 2
		}
		if fuel > 3 {
			less.Told = []int{3}
		}
		try{m, 0, []int{3}, fuel, 2}.comesTo(t, "less", less)
	}
	round := over(fun(t, 0, "jump 0", none))
	if o := (try{round, 0, nil, api.MaxFuel, 0}).guarded(); show(o) != show(api.Outcome{Err: api.ErrFuel, Steps: api.MaxFuel}) {
		t.Error(o)
	}
	try{over(api.Func{}), 0, nil, 0, 0}.comesTo(t, "no fuel, no code", api.Outcome{Err: api.ErrFuel})
}

func TestP17_1RoomJustEnough(t *testing.T) {
	m := over(fun(t, 0, "new 2; pop; int 3; make; len; return", api.TInt))
	for room := range 12 {
		want := api.Outcome{Result: 3, Steps: 6, Cells: 8}
		switch {
		case room < 4:
			want = api.Outcome{Err: api.ErrTrap, Trap: api.TrapRoom, Steps: 1}
		case room < 8:
			want = api.Outcome{Err: api.ErrTrap, Trap: api.TrapRoom, Steps: 4, Cells: 4}
		}
		try{m, 0, nil, 99, room}.comesTo(t, "room", want)
	}
	loop := over(fun(t, 0, "int 1; make; pop; jump 0", none))
	try{loop, 0, nil, 9999, 4096}.comesTo(t, "all of it", api.Outcome{Err: api.ErrTrap, Trap: api.TrapRoom, Steps: 4*2048 + 2, Cells: 4096})
}

func TestP17_1HeldAgainstTheWords(t *testing.T) {
	type ending struct {
		err  api.Errno
		trap int
	}
	d := dice(1)
	came := map[ending]int{}
	var done [api.NumOps]int
	for range 4000 {
		for _, m := range someModules(t, &d) {
			runsOf(&d, m, func(x try) {
				w := x.told()
				if o := x.guarded(); show(o) != show(w.o) {
					t.Fatalf("%+v\n%+v\nwanted\n%+v", x, o, w.o)
				}
				for op, n := range w.done {
					done[op] += n
				}
				came[ending{w.o.Err, min(w.o.Trap, api.TrapOwn)}]++
			})
		}
	}
	for _, e := range []api.Errno{api.OK, api.ErrArgs, api.ErrFuel, api.ErrStuck} {
		if came[ending{err: e}] < 300 {
			t.Error(e, "hardly comes", came)
		}
	}
	for _, trap := range []int{api.TrapDivide, api.TrapNull, api.TrapIndex, api.TrapSize, api.TrapCast, api.TrapRoom, api.TrapDepth, api.TrapOwn} {
		if came[ending{api.ErrTrap, trap}] < 30 {
			t.Error(trap, "hardly comes", came)
		}
	}
	if slices.Min(done[:]) < 150 {
		t.Error("hardly done", done)
	}
}

func TestP17_1DeepAndLong(t *testing.T) {
	sum := over(fun(t, 0, times(24, "int 1")+times(23, "add")+"return", api.TInt))
	try{sum, 0, nil, 99, 0}.comesTo(t, "all slots", api.Outcome{Result: 24, Steps: 48})
	full := over(fun(t, 0, "jump 0", none))
	full.Funcs[0].Code = append(make([]byte, 4093), api.OpJump, 0, 0)
	try{full, 0, nil, 5000, 0}.comesTo(t, "the longest code", api.Outcome{Err: api.ErrFuel, Steps: 5000})
}
