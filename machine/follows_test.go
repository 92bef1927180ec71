package machine_test

import (
	"fmt"
	"math"
	"slices"
	"testing"

	"proviso/api"
	"proviso/cert"
	"proviso/gen"
	"proviso/infer"
	"proviso/machine"
	"proviso/meaning"
	"proviso/module"
	"proviso/onepass"
	"proviso/parse"
	"proviso/samples"
)

// compiled is the module of a source text, with its certificates.
func compiled(t *testing.T, src string) api.Module {
	t.Helper()
	m, err := gen.Compile("m", src)
	if err != nil {
		t.Fatal(src, err)
	}
	m, fn, at, why := infer.Module(m)
	if why != api.OK {
		t.Fatal(src, fn, at, why)
	}
	return m
}

// spoilt is a module with some of its code another one, and now and then something else.
func spoilt(d *dice, m api.Module) api.Module {
	m.Funcs = slices.Clone(m.Funcs)
	f := &m.Funcs[d.Below(len(m.Funcs))]
	switch d.Below(12) {
	case 0:
		f.Code = samples.Anything(d, 1+d.Below(30))
	case 1:
		f.Locals = d.Below(18)
	case 2:
		f.Sig.Result = api.Type(d.Below(21))
	case 3:
		f.Sig.Params = append(slices.Clone(f.Sig.Params), api.Type(d.Below(21)))
		f.Locals++
	default:
		f.Code = samples.Turned(d, f.Code)
	}
	return m
}

// someModules are one of sound code, one of a source text, and one of each that is spoilt.
func someModules(t *testing.T, d *dice) []api.Module {
	l := []api.Module{samples.Module(d, 1+d.Below(5)), compiled(t, samples.Source(d, 1+d.Below(12)))}
	for _, m := range l {
		if len(m.Funcs) > 0 {
			l = append(l, spoilt(d, m))
		}
	}
	return l
}

// bent is a module whose certificates say less here and there, or otherwise.
func bent(d *dice, m api.Module) api.Module {
	m.Certs = slices.Clone(m.Certs)
	for i := range m.Certs {
		c, _, _ := cert.Decode(m.Certs[i])
		for n := range c.Entries {
			if x := &c.Entries[n]; !x.Dead && d.Below(3) == 0 {
				x.Frame = samples.Above(d, m.Classes, x.Frame)
			}
		}
		m.Certs[i], _ = cert.Encode(c)
		if d.Below(9) == 0 {
			m.Certs[i] = samples.Turned(d, m.Certs[i])
		}
	}
	return m
}

// accepted yields runs of modules that onepass takes: as they came, spoilt, and with other certificates.
func accepted(t *testing.T, seed dice, n int, each func(d *dice, x try)) {
	d := &seed
	for range n {
		for _, m := range someModules(t, d) {
			for _, m := range []api.Module{m, bent(d, m)} {
				if _, _, why := onepass.Module(m); why == api.OK {
					runsOf(d, m, func(x try) { each(d, x) })
				}
			}
		}
	}
}

// TestP17_5NeverStuck is P1 of DOC.md, and P17.2.
func TestP17_5NeverStuck(t *testing.T) {
	came, steps := 0, 0
	accepted(t, 4, 3000, func(_ *dice, x try) {
		o := x.guarded()
		if o.Err == api.ErrStuck {
			t.Fatalf("%+v\n%+v", x, o)
		}
		if b := x.bare(); show(b) != show(o) {
			t.Fatalf("%+v\nbare\n%+v\nguarded\n%+v", x, b, o)
		}
		came++
		steps += o.Steps
	})
	if came < 10000 || steps < 1000000 {
		t.Error("few", came, steps)
	}
}

// A module that infer takes as one is never stuck, though it was made of bytes as the dice fall: P1 and P3.
func TestP17_5NeverStuckOfAnyBytes(t *testing.T) {
	d, came, steps := dice(5), 0, 0
	for range 60000 {
		m := over(api.Func{Code: samples.Anything(&d, 1+d.Below(12)), Locals: d.Below(3)}, fun(t, 0, "int 1; return", api.TInt))
		m, _, _, why := infer.Module(m)
		if why != api.OK {
			continue
		}
		if _, _, why := onepass.Module(m); why != api.OK {
			t.Fatal(m, why)
		}
		x := try{m, 0, nil, 300, 20}
		o := x.guarded()
		if o.Err == api.ErrStuck || show(o) != show(x.bare()) {
			t.Fatalf("%+v\n%+v\n%+v", x, o, x.bare())
		}
		came++
		steps += o.Steps
	}
	if came < 1000 || steps < 20000 {
		t.Error("few", came, steps)
	}
}

func TestP17_2Bare(t *testing.T) {
	m := compiled(t, "record p { x int } fun f(n int) int { var a p = new p; a.x = n; tell g(a); return a.x; } fun g(a p) int { a.x = a.x + 1; return 100 / (a.x - 5); }")
	for n, want := range map[int]api.Outcome{
		3: {Result: 4, Steps: 24, Cells: 2, Told: []int{-100}},
		4: {Err: api.ErrTrap, Trap: api.TrapDivide, Steps: 19, Cells: 2},
	} {
		x := try{m, 0, []int{n}, 100, 2}
		if o := x.bare(); show(o) != show(want) || show(o) != show(x.guarded()) {
			t.Errorf("%+v, wanted %+v", o, want)
		}
	}
	x := try{m, 0, []int{3}, 20, 2}
	if o := x.bare(); o.Err != api.ErrFuel || o.Steps != 20 {
		t.Error(o)
	}
}

// Of a module that onepass does not take nothing is said, but that Bare ends.
func TestP17_2BareEndsWhateverTheCode(t *testing.T) {
	d, came := dice(6), 0
	for range 1500 {
		for _, m := range someModules(t, &d) {
			runsOf(&d, m, func(x try) {
				if o := x.bare(); o.Err != errorAhead(x) && errorAhead(x) != api.OK {
					t.Fatalf("%+v %+v", x, o)
				}
				came++
			})
		}
		b := make([]byte, d.Below(60))
		for i := range b {
			b[i] = byte(d.Below(36))
		}
		x := try{over(api.Func{Code: b, Locals: d.Below(17)}, fun(t, 8, "call 0; return", api.TInt, slices.Repeat([]api.Type{api.TInts}, 8)...)), 0, nil, 2000, 50}
		if o := x.bare(); o.Steps > 2000 || o.Cells > 50 {
			t.Fatal(b, o)
		}
	}
	for _, text := range []string{"", "pop", "add", "swap", "dup", "load 200", "store 200", "call 9", "new 99", "return", "int 1; make; get 3 0", "int 99; get 0 0", "int 9; int 9; int 9; set", "int 77; cast 200", "int 5; test 255", "jump 60000", "call 0", times(30, "int 1"), "null; get 200 200", "bool 1; tell; jump 0", "int 7; len"} {
		for _, locals := range []int{0, 1, 16} {
			(try{over(fun(t, locals, text, api.TInt)), 0, nil, api.MaxFuel, 90}).bare()
		}
	}
	if came < 4000 {
		t.Error("few", came)
	}
}

// answer is an outcome, but for its steps: the meaning counts rules.
func answer(o api.Outcome) string {
	o.Steps = 0
	return show(o)
}

// TestP17_6AsCompiled is P6 of DOC.md.
func TestP17_6AsCompiled(t *testing.T) {
	d := dice(7)
	ended, enough, came := 0, 0, map[int]int{}
	for i := range 4000 {
		src := samples.Source(&d, 1+i%13)
		p, _ := parse.Parse(src)
		m := compiled(t, src)
		runsOf(&d, m, func(x try) {
			o := x.bare()
			if o.Err != api.ErrFuel {
				if means := meaning.Run(p, x.entry, x.args, api.MaxFuel, x.room); answer(means) != answer(o) {
					t.Fatalf("%s\n%d %v %d\n%+v\nmeans\n%+v", src, x.entry, x.args, x.room, o, means)
				}
				ended++
				came[min(o.Trap, api.TrapOwn)]++
			}
			means := meaning.Run(p, x.entry, x.args, d.Below(400), x.room)
			if means.Err == api.ErrFuel {
				return
			}
			least := api.StepsPerRule*means.Steps + 1
			for _, fuel := range []int{least, least + 1, least + api.StepsPerRule - 1, least + d.Below(1000)} {
				y := x
				y.fuel = fuel
				for _, o := range []api.Outcome{y.bare(), y.guarded()} {
					if answer(o) != answer(means) {
						t.Fatalf("%s\n%d %v %d, fuel %d\n%+v\nmeans\n%+v", src, x.entry, x.args, x.room, fuel, o, means)
					}
				}
			}
			enough++
		})
	}
	if ended < 4000 || enough < 3000 || len(came) < 8 {
		t.Error("few", ended, enough, came)
	}
}

// The edges of the language, by the machine and by the meaning.
func TestP17_6AsCompiledAtTheEdges(t *testing.T) {
	for _, src := range []string{
		"fun f(n int) int { return n / 0; }",
		"record p { } record q { } fun f(n int) { var r any = new p; if n > 1 { r = null; } r = r as q; }",
		"fun f(n int) int { return f(n); }",
		"fun f(n int) int { if n > 0 { return 1 + f(n - 1); } return 0; }",
		"fun f(n int) { var i int = 0; while true { tell i; i = i + n; } }",
		"fun f(n int) { while true { var s ints = new ints(n); } }",
		"fun f(n int) int { return -2147483648 / (0 - n) + -2147483648 % n; }",
		"fun f(n int) { }",
		"fun f(n int) { fail 200; }",
		"fun f(n int) int { var s ints = new ints(3); s[n] = n; return s[n] + s[2] + len(s); }",
		"record p { x int, s ints, b bool, n p } fun f(n int) int { var a p = new p; if a.b || a.n != null || a.s != null { return 1; } a.n = a; a.n.n.x = n; return a.n.x; }",
		"fun f(n int) int { var s int = 0; if n > 99 { n = 99; } while n > 0 { n = n - 1; if n == 5 { continue; } if n == 1 { break; } s = s + n; } return s; }",
		"fun f(n int) bool { return n > 1 && 1 / (n - 2) > 0 || n < 0 && 1 / n == 0; }",
		"record p { } record q : p { } fun f(n int) int { var a p = new q; var b any = new ints(1); if a is q && !(b is p) && !(null is p) { return 1; } return 0; }",
		"fun f(n int) { g(); g(); tell h(); h(); } fun g() { return; } fun h() int { tell 1; return 2; }",
	} {
		p, err := parse.Parse(src)
		if err != nil {
			t.Fatal(src, err)
		}
		m := compiled(t, src)
		for _, n := range []int{-1, 0, 1, 2, 3, 9, 62, 63, 64, math.MaxInt32, math.MinInt32} {
			for _, room := range []int{0, 1, 9, 4096} {
				means := meaning.Run(p, 0, []int{n}, 100000, room)
				x := try{m, 0, []int{n}, min(api.StepsPerRule*means.Steps+1, api.MaxFuel), room}
				if o := x.bare(); means.Err == api.ErrFuel || answer(o) != answer(means) || show(o) != show(x.guarded()) {
					t.Errorf("%s\n%d %d\n%+v\nmeans\n%+v", src, n, room, o, means)
				}
			}
		}
	}
}

func isBeginning(a, b []int) bool { return len(a) <= len(b) && slices.Equal(a, b[:len(a)]) }

func TestP17_7MoreFuel(t *testing.T) {
	d, came, begun := dice(8), 0, 0
	for range 300 {
		for _, m := range someModules(t, &d) {
			runsOf(&d, m, func(x try) {
				if d.Below(100) == 0 {
					x.fuel = d.Below(api.MaxFuel)
				}
				o := x.guarded()
				for _, fuel := range []int{o.Steps, o.Steps + 1, x.fuel, x.fuel + 1, x.fuel + d.Below(5000), api.MaxFuel} {
					y := x
					if y.fuel = fuel; o.Err != api.ErrFuel && show(y.guarded()) != show(o) {
						t.Fatalf("%+v, fuel %d\n%+v\n%+v", x, fuel, o, y.guarded())
					}
				}
				for fuel := 0; fuel < o.Steps; fuel += 1 + d.Below(1+o.Steps/20) {
					y := x
					y.fuel = fuel
					less := y.guarded()
					if less.Err != api.ErrFuel || less.Steps != fuel || less.Trap != 0 || less.Result != 0 || less.Cells > o.Cells || !isBeginning(less.Told, o.Told) {
						t.Fatalf("%+v, fuel %d\n%+v\n%+v", x, fuel, o, less)
					}
					if len(less.Told) > 0 {
						begun++
					}
				}
				came++
			})
		}
	}
	if came < 1000 || begun < 300 {
		t.Error("few", came, begun)
	}
}

// TestP8Shipped: a module that was written and read does what it did.
func TestP8Shipped(t *testing.T) {
	accepted(t, 9, 300, func(_ *dice, x try) {
		b, why := module.Encode(x.m)
		if why != api.OK {
			t.Fatal(x.m, why)
		}
		m, _, why := module.Decode(b)
		if _, _, bad := onepass.Module(m); why != api.OK || bad != api.OK {
			t.Fatal(x.m, why, bad)
		}
		y := x
		if y.m = m; show(x.guarded()) != show(y.guarded()) || show(x.bare()) != show(y.bare()) {
			t.Fatal(x)
		}
	})
}

func TestTheSameAgain(t *testing.T) {
	d := dice(10)
	var last try
	for range 300 {
		for _, m := range someModules(t, &d) {
			runsOf(&d, m, func(x try) {
				o := show(x.guarded())
				b := show(x.bare())
				last.guarded()
				if show(x.guarded()) != o || show(x.bare()) != b {
					t.Fatalf("%+v %s", x, o)
				}
				last = x
			})
		}
	}
}

func TestNothingHandedInIsChanged(t *testing.T) {
	d := dice(11)
	for range 500 {
		for _, m := range someModules(t, &d) {
			runsOf(&d, m, func(x try) {
				x.args = append(slices.Clone(x.args), 77)[:len(x.args)]
				before := fmt.Sprintf("%+v", x.m)
				args := slices.Clone(x.args[:len(x.args)+1])
				x.guarded()
				x.bare()
				if r, why := machine.Begin(x.m, x.entry, x.args, x.room); why == api.OK {
					r.Go(x.fuel)
				}
				if fmt.Sprintf("%+v", x.m) != before || !slices.Equal(x.args[:len(args)], args) {
					t.Fatal(before)
				}
			})
		}
	}
}

func TestAnswersAreNewMemory(t *testing.T) {
	m := over(fun(t, 1, "load 0; tell; int 2; tell; int 3; tell; return", none, api.TInt))
	x := try{m, 0, []int{1}, 99, 0}
	for _, run := range []func() api.Outcome{x.guarded, x.bare} {
		one, two := run(), run()
		samples.Overwrite(one.Told, 77)
		if !slices.Equal(two.Told, []int{1, 2, 3}) || x.args[0] != 1 || !slices.Equal(run().Told, []int{1, 2, 3}) {
			t.Error(two, x.args)
		}
	}
}

func TestRoomBehindTheEndIsNotRead(t *testing.T) {
	m := over(fun(t, 1, "load 0; call 1; tell; return", none, api.TInt), fun(t, 1, "load 0; return", api.TInt, api.TInt))
	x := try{m, 0, []int{4}, 99, 9}
	want := show(x.guarded())
	m.Classes = append(m.Classes, api.Class{Name: "shape"})[:4]
	m.Funcs = append(slices.Clone(m.Funcs), api.Func{Locals: -1})[:2]
	m.Funcs[1].Code = append(slices.Clone(m.Funcs[1].Code), 255)[:3]
	m.Funcs[1].Sig.Params = append(slices.Clone(m.Funcs[1].Sig.Params), 99)[:1]
	y := try{m, 0, []int{4, 5}[:1], 99, 9}
	if show(y.guarded()) != want || show(y.bare()) != want {
		t.Error(y.guarded())
	}
	y.m.Funcs[0].Code = assembled(t, "call 2; return")[:3]
	isStuck(t, "no function behind the end", over(fun(t, 0, "call 1", none)), 1)
	y.comesTo(t, "no function behind the end", api.Outcome{Err: api.ErrStuck, Steps: 1})
	z := try{over(api.Func{Code: []byte{0, 22}[:1]}), 0, nil, 9, 0}
	z.comesTo(t, "no code behind the end", api.Outcome{Err: api.ErrStuck, Steps: 2})
}

func TestNilAndEmptyListsAreOne(t *testing.T) {
	a := api.Module{Funcs: []api.Func{{Code: []byte{22}}, {}}}
	b := api.Module{Classes: []api.Class{}, Certs: [][]byte{}, Funcs: []api.Func{{Sig: api.Sig{Params: []api.Type{}}, Code: []byte{22}}, {Code: []byte{}}}}
	for entry := range 3 {
		for _, args := range [][]int{nil, {}} {
			x, y := try{a, entry, args, 9, 9}, try{b, entry, args, 9, 9}
			if show(x.guarded()) != show(y.guarded()) || show(x.bare()) != show(y.bare()) {
				t.Error(entry, x.guarded(), y.guarded())
			}
		}
	}
}

func TestAllEndsOfAllArguments(t *testing.T) {
	m := compiled(t, "fun f(a int, b bool) { while b { } }")
	for _, n := range samples.Numbers() {
		for _, k := range samples.Numbers() {
			for _, x := range []try{{m, n, []int{k, n}, k, n}, {m, 0, []int{n, k}, 10, 10}, {api.Module{}, n, []int{k}, 1, 1}, {m, 0, []int{n, 1}, k, 0}} {
				why := errorAhead(x)
				if why == api.OK && x.fuel > 5000 {
					continue
				}
				if o, b := x.guarded(), x.bare(); why != api.OK && (o.Err != why || b.Err != why) {
					t.Error(x, o, b, why)
				}
				machine.Begin(x.m, n, x.args, k)
			}
		}
	}
	for _, m := range []api.Module{
		{Funcs: make([]api.Func, 5000)}, {Classes: make([]api.Class, 5000), Funcs: make([]api.Func, 1)},
		{Funcs: []api.Func{{Sig: api.Sig{Params: make([]api.Type, 1<<16)}, Locals: 1 << 16}}}, {Funcs: []api.Func{{Code: make([]byte, 1<<20)}}},
	} {
		isRefused(t, "too much", try{m, 0, nil, 1, 1}, api.ErrArg)
	}
}
