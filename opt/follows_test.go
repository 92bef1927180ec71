package opt_test

import (
	"bytes"
	"slices"
	"testing"

	"proviso/api"
	"proviso/code"
	"proviso/flow"
	"proviso/gen"
	"proviso/infer"
	"proviso/machine"
	"proviso/meaning"
	"proviso/module"
	"proviso/onepass"
	"proviso/opt"
	"proviso/samples"
)

func count(b []byte) int {
	l, _, _ := flow.Scan(b)
	return len(l)
}

// someCode yields code that may be: as the dice fall, and sound.
func someCode(seed dice, n int) func(yield func(b []byte) bool) {
	return func(yield func(b []byte) bool) {
		d := seed
		for i := range n {
			e := samples.World(i % 4)
			sound := samples.Sound(&d, e, len(e.Sigs[i%4].Params)+d.Below(4), 5+d.Below(40))
			for _, b := range [][]byte{loose(&d, 1+d.Below(60)), sound, padded(&d, sound)} {
				if _, why := flow.Check(b); why == api.OK && !yield(b) {
					return
				}
			}
		}
	}
}

func TestP19_3Less(t *testing.T) {
	came, less := 0, 0
	for b := range someCode(3, 4000) {
		f, why := opt.Func(api.Func{Code: b})
		if why != api.OK || len(f.Code) > len(b) || count(f.Code) > count(b) {
			t.Fatal(words(b), words(f.Code), why)
		}
		if _, why := flow.Check(f.Code); why != api.OK {
			t.Fatal(words(b), words(f.Code), why)
		}
		came++
		if count(f.Code) < count(b) {
			less++
		}
	}
	if came < 10000 || less < 8000 {
		t.Error("few", came, less)
	}
}

func TestP19_4Done(t *testing.T) {
	came := 0
	for b := range someCode(4, 4000) {
		f, _ := opt.Func(api.Func{Name: "f", Locals: 2, Code: b})
		if g, why := opt.Func(f); why != api.OK || show(g) != show(f) {
			t.Fatal(words(b), words(f.Code), words(g.Code), why)
		}
		came++
	}
	if came < 10000 {
		t.Error("few", came)
	}
	// of a done one no rule has anything to do
	for b := range someCode(5, 500) {
		l := placed(optimised(t, b))
		led := make([]int, len(l)+1)
		for _, in := range l {
			if code.Jumps(in.Op) {
				led[in.A]++
			}
		}
		for i, in := range l {
			if in.Op == api.OpNop || in.Op == api.OpJump && in.A == i+1 || in.Op == api.OpUnless && in.A == i+1 {
				t.Fatal(i, words(b))
			}
			if i+1 < len(l) && led[i+1] == 0 && in.Op == api.OpBool && slices.Contains([]byte{api.OpNot, api.OpPop, api.OpUnless}, l[i+1].Op) {
				t.Fatal(i, words(b))
			}
		}
	}
}

func TestP19_5Taken(t *testing.T) {
	d, taken, less := dice(6), 0, 0
	for i := range 6000 {
		e := samples.World(i % 4)
		locals := len(e.Sigs[i%4].Params) + d.Below(4)
		sound := samples.Sound(&d, e, locals, 5+d.Below(40))
		for _, b := range [][]byte{sound, padded(&d, sound), loose(&d, 1+d.Below(8))} {
			_, _, refused := infer.Infer(e, locals, b)
			f, why := opt.Func(api.Func{Code: b})
			if refused != api.OK || why != api.OK {
				continue
			}
			if _, at, why := infer.Infer(e, locals, f.Code); why != api.OK {
				t.Fatal(words(b), words(f.Code), at, why)
			}
			taken++
			if len(f.Code) < len(b) {
				less++
			}
		}
	}
	if taken < 5000 || less < 3000 {
		t.Error("few", taken, less)
	}
}

// compiled is the module of a source text.
func compiled(t *testing.T, src string) api.Module {
	t.Helper()
	m, err := gen.Compile("m", src)
	if err != nil {
		t.Fatal(src, err)
	}
	return m
}

// paddedModule is a module with the padded code of each function, if infer takes that.
func paddedModule(d *dice, m api.Module) api.Module {
	m.Funcs = slices.Clone(m.Funcs)
	for i, f := range m.Funcs {
		e, _ := infer.Env(m, i)
		b := padded(d, f.Code)
		if _, _, why := infer.Infer(e, f.Locals, b); why == api.OK {
			m.Funcs[i].Code = b
		}
	}
	return m
}

// someModules are one of sound code, one of a source text, and each of these padded.
func someModules(t *testing.T, d *dice) []api.Module {
	l := []api.Module{samples.Module(d, 1+d.Below(5)), compiled(t, samples.Source(d, 1+d.Below(12)))}
	for _, m := range l[:2] {
		l = append(l, paddedModule(d, m))
	}
	return l
}

// proved is a module with its certificates, which onepass takes.
func proved(t *testing.T, m api.Module) api.Module {
	t.Helper()
	m, fn, at, why := infer.Module(m)
	if why != api.OK {
		t.Fatal(fn, at, why)
	}
	if fn, at, why := onepass.Module(m); why != api.OK {
		t.Fatal(fn, at, why)
	}
	return m
}

// argument is a value of a type from outside.
func argument(d *dice, t api.Type) int {
	if t == api.TBool {
		return d.Below(2)
	}
	return pick(d, []int{0, 1, 2, 3, 5, 9, -1, -7, 1<<31 - 1, -1 << 31, d.Below(1000)})
}

// TestP19_6TheSame is P8 of DOC.md, of what was optimised.
func TestP19_6TheSame(t *testing.T) {
	d, came, fewer, traps := dice(7), 0, 0, map[int]int{}
	for range 1500 {
		for _, m := range someModules(t, &d) {
			m = proved(t, m)
			n, why := opt.Module(m)
			if why != api.OK {
				t.Fatal(m, why)
			}
			n = proved(t, n)
			for fn, f := range m.Funcs {
				var args []int
				for _, p := range f.Sig.Params {
					args = append(args, argument(&d, p))
				}
				fuel, room := d.Below(2000), d.Below(60)
				o, p := machine.Guarded(m, fn, args, fuel, room), machine.Guarded(n, fn, args, fuel, room)
				if !meaning.Admits(f.Sig, args) && o.Err != api.ErrArgs || p.Steps > o.Steps {
					t.Fatal(o, p)
				}
				if o.Err == api.ErrFuel || o.Err == api.ErrArgs {
					continue
				}
				if b := machine.Bare(n, fn, args, fuel, room); show(b) != show(p) {
					t.Fatal(b, p)
				}
				came++
				if p.Steps < o.Steps {
					fewer++
				}
				traps[min(o.Trap, api.TrapOwn)]++
				p.Steps = o.Steps
				if show(o) != show(p) {
					t.Fatalf("%s\n%s\n%v %d %d\n%+v\n%+v", words(f.Code), words(n.Funcs[fn].Code), args, fuel, room, o, p)
				}
			}
		}
	}
	if came < 3000 || fewer < 1500 || len(traps) < 8 {
		t.Error("few", came, fewer, traps)
	}
}

// As many steps as are left, no more: with just that fuel it ends.
func TestP19_6InNoMoreSteps(t *testing.T) {
	m := compiled(t, "fun f(n int) int { var s int = 0; while true { if n < 1 && 2 > 1 { return s; } s = s + n * (2 * 3 - 5); n = n - 1; } return 0; }")
	n, why := opt.Module(m)
	if why != api.OK || len(n.Funcs[0].Code) >= len(m.Funcs[0].Code) {
		t.Fatal(words(m.Funcs[0].Code), words(n.Funcs[0].Code), why)
	}
	for k, want := range map[int]int{-1: 0, 0: 0, 1: 1, 10: 55, 100: 5050} {
		o, p := machine.Guarded(m, 0, []int{k}, 5000, 0), machine.Guarded(n, 0, []int{k}, 5000, 0)
		if o.Result != want || p.Result != want || p.Steps >= o.Steps || p.Err != api.OK {
			t.Error(k, o, p)
		}
		if q := machine.Guarded(n, 0, []int{k}, p.Steps, 0); show(q) != show(p) {
			t.Error(k, q)
		}
	}
	// what never ends goes on for ever
	for _, text := range []string{"a: jump b; b: jump a", "a: bool 0; unless a; return", "a: nop; jump a"} {
		f, _ := opt.Func(api.Func{Code: assembled(t, text)})
		if o := machine.Guarded(api.Module{Funcs: []api.Func{f}}, 0, nil, 1000, 0); o.Err != api.ErrFuel || o.Steps != 1000 {
			t.Error(text, o)
		}
	}
}

// TestP8OptimisedAndShipped: what was optimised is a module that may be, written and read.
func TestP8OptimisedAndShipped(t *testing.T) {
	d := dice(8)
	for range 300 {
		for _, m := range someModules(t, &d) {
			n, why := opt.Module(m)
			if why != api.OK {
				t.Fatal(why)
			}
			n = proved(t, n)
			b, why := module.Encode(n)
			if why != api.OK {
				t.Fatal(why)
			}
			if back, at, why := module.Decode(b); why != api.OK || !module.Same(back, n) {
				t.Fatal(at, why)
			}
			again, why := opt.Module(n)
			if again = proved(t, again); why != api.OK || !module.Same(again, n) || !slices.EqualFunc(again.Certs, n.Certs, bytes.Equal) {
				t.Fatal(why)
			}
		}
	}
}
