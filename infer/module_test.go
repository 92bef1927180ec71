package infer_test

import (
	"bytes"
	"math"
	"reflect"
	"slices"
	"strconv"
	"testing"

	"proviso/api"
	"proviso/infer"
	"proviso/samples"
)

func TestP8_1May(t *testing.T) {
	nine := slices.Repeat([]api.Type{api.TInt}, 9)
	sig := func(result api.Type, params ...api.Type) api.Sig { return api.Sig{Params: params, Result: result} }
	for _, x := range []struct {
		name   string
		e      api.Env
		locals int
		want   api.Errno
	}{
		{"one function", samples.One(), 0, api.OK},
		{"MaxLocals", samples.One(), 16, api.OK},
		{"one more", samples.One(), 17, api.ErrArg},
		{"below 0", samples.One(), -1, api.ErrArg},
		{"no functions", api.Env{}, 0, api.ErrFunc},
		{"MaxFuncs", api.Env{Sigs: make([]api.Sig, 64), Fn: 63}, 0, api.OK},
		{"one more", api.Env{Sigs: make([]api.Sig, 65), Fn: 63}, 0, api.ErrLong},
		{"MaxParams", api.Env{Sigs: []api.Sig{{Params: nine[:8]}}}, 8, api.OK},
		{"fewer locals than parameters", api.Env{Sigs: []api.Sig{{Params: nine[:8]}}}, 7, api.ErrArg},
		{"another one's parameters play no part", api.Env{Sigs: []api.Sig{{}, {Params: nine[:8]}}}, 0, api.OK},
		{"one parameter more", api.Env{Sigs: []api.Sig{{Params: nine}}}, 9, api.ErrLong},
		{"of another one", api.Env{Sigs: []api.Sig{{}, {Params: nine}}}, 0, api.ErrLong},
		{"Fn below 0", api.Env{Sigs: []api.Sig{{}}, Fn: -1}, 0, api.ErrFunc},
		{"Fn behind the last", api.Env{Sigs: []api.Sig{{}}, Fn: 1}, 0, api.ErrFunc},
		{"types.Check's error", api.Env{Classes: []api.Class{{Name: "a", Parent: -1}, {Name: "a", Parent: -1}}, Sigs: []api.Sig{{}}}, 0, api.ErrTwice},
		{"a parent", api.Env{Classes: []api.Class{{Name: "a"}}, Sigs: []api.Sig{{}}}, 0, api.ErrParent},
		{"a name", api.Env{Classes: []api.Class{{Parent: -1}}, Sigs: []api.Sig{{}}}, 0, api.ErrName},
		{"MaxClasses", api.Env{Classes: samples.Chain(32), Sigs: []api.Sig{sig(api.TClass + 31)}}, 0, api.OK},
		{"one more", api.Env{Classes: samples.Chain(33), Sigs: []api.Sig{{}}}, 0, api.ErrLong},
		{"classes ahead of all", api.Env{Classes: []api.Class{{}}, Sigs: make([]api.Sig, 65), Fn: -1}, -1, api.ErrName},
		{"functions ahead of types", api.Env{Sigs: slices.Repeat([]api.Sig{sig(99, 99)}, 65), Fn: -1}, -1, api.ErrLong},
		{"the first one's type ahead of the second one's length", api.Env{Sigs: []api.Sig{sig(99), {Params: nine}}}, 0, api.ErrType},
		{"the first one's length ahead of the second one's type", api.Env{Sigs: []api.Sig{{Params: nine}, sig(99)}}, 0, api.ErrLong},
		{"of one the length first", api.Env{Sigs: []api.Sig{{Params: slices.Repeat([]api.Type{99}, 9), Result: 99}}}, 0, api.ErrLong},
		{"types ahead of Fn", api.Env{Sigs: []api.Sig{{}, sig(99)}, Fn: 2}, -1, api.ErrType},
		{"Fn ahead of locals", api.Env{Sigs: []api.Sig{{}}, Fn: 1}, -1, api.ErrFunc},
		{"a signature behind Fn", api.Env{Sigs: []api.Sig{{}, sig(0, api.TInt, api.TNull)}}, 0, api.ErrType},
	} {
		if why := infer.May(x.e, x.locals); why != x.want {
			t.Error(x.name, why, "want", x.want)
		}
		if why := may(x.e, x.locals); why != x.want {
			t.Error("the words of the document:", x.name, why)
		}
		if x.want != api.OK {
			isFault(t, x.name, function{x.e, x.locals, []byte{api.OpNop}}, 0, x.want)
		}
	}
}

func TestP8_1EveryType(t *testing.T) {
	for _, classes := range [][]api.Class{nil, samples.Shapes(), samples.Chain(32)} {
		for c := range 256 {
			code := api.Type(c)
			for _, e := range []api.Env{{Sigs: []api.Sig{{Params: []api.Type{code}}}}, {Sigs: []api.Sig{{Result: code}}}, {Sigs: []api.Sig{{}, {Params: []api.Type{api.TInt, code}}}}} {
				e.Classes = classes
				if why := infer.May(e, 1); why != may(e, 1) {
					t.Error(len(classes), c, why)
				}
			}
		}
	}
}

func TestP8_1AllLocals(t *testing.T) {
	for n := range 9 {
		e := api.Env{Sigs: []api.Sig{{}, {Params: slices.Repeat([]api.Type{api.TBool}, n)}}, Fn: 1}
		for _, locals := range append(samples.Numbers(), 4, 5, 6, 7, 8, 9) {
			want := api.ErrArg
			if locals >= n && locals <= 16 {
				want = api.OK
			}
			if why := infer.May(e, locals); why != want {
				t.Error(n, locals, why)
			}
		}
	}
}

// whole is a module of three functions, all that it has being there.
func whole() api.Module {
	return api.Module{
		Name:    "m",
		Classes: samples.Shapes(),
		Funcs: []api.Func{
			{Name: "f", Sig: api.Sig{Params: []api.Type{disc, api.TInt}, Result: api.TInt}, Locals: 3, Code: []byte{api.OpLoad, 1, api.OpReturn}},
			{Name: "g", Locals: 1, Code: []byte{api.OpBool, 1, api.OpUnless, 0, 0, api.OpReturn, 99}},
			{Name: "h", Sig: api.Sig{Params: []api.Type{box}}, Locals: 1, Code: []byte{api.OpLoad, 0, api.OpInt, 0, 0, 0, 9, api.OpCall, 0, api.OpPop, api.OpReturn}},
		},
		Certs: [][]byte{{1, 2}, nil, {3}, {4}, {5, 6, 7}},
	}
}

func TestP8_4Env(t *testing.T) {
	m := whole()
	for fn := range 3 {
		want := api.Env{Classes: samples.Shapes(), Sigs: []api.Sig{{Params: []api.Type{disc, api.TInt}, Result: api.TInt}, {}, {Params: []api.Type{box}}}, Fn: fn}
		if e, is := infer.Env(m, fn); !is || !reflect.DeepEqual(e, want) {
			t.Error(fn, e, is)
		}
	}
	for _, fn := range []int{-1, 3, 4, math.MinInt, math.MaxInt} {
		if e, is := infer.Env(m, fn); is || !reflect.DeepEqual(e, api.Env{}) {
			t.Error(fn, e, is)
		}
	}
	if e, is := infer.Env(api.Module{Classes: samples.Shapes()}, 0); is || !reflect.DeepEqual(e, api.Env{}) {
		t.Error("no functions", e, is)
	}
	many := api.Module{Classes: []api.Class{{Name: "?"}}, Funcs: make([]api.Func, 70)}
	if e, is := infer.Env(many, 69); !is || len(e.Sigs) != 70 || e.Fn != 69 || len(e.Classes) != 1 {
		t.Error("no more is looked at", e, is)
	}
}

func TestP8_5Module(t *testing.T) {
	m, fn, at, why := infer.Module(bad(whole(), 2, api.OpPop, api.OpReturn))
	if !reflect.DeepEqual(m, api.Module{}) || fn != 2 || at != 0 || why != api.ErrUnder {
		t.Error(m, fn, at, why)
	}
	in := whole()
	in.Funcs[2].Sig.Params[0] = disc // call 0 takes a disc
	m, fn, at, why = infer.Module(in)
	if fn != 0 || at != 0 || why != api.OK || len(m.Certs) != 3 {
		t.Fatal(m, fn, at, why)
	}
	for i, f := range in.Funcs {
		e, _ := infer.Env(in, i)
		p, _, why := infer.Emit(e, f.Locals, f.Code)
		if why != api.OK || !bytes.Equal(p, m.Certs[i]) {
			t.Error(i, p, m.Certs[i], why)
		}
	}
	m.Certs = in.Certs
	if !reflect.DeepEqual(m, in) {
		t.Error("something else has changed", m)
	}
}

// bad is a module with another code for a function.
func bad(m api.Module, fn int, b ...byte) api.Module {
	m.Funcs[fn].Code = b
	return m
}

func TestP8_5TheFirstFunctionAtFault(t *testing.T) {
	fine := func() api.Module {
		m := whole()
		m.Funcs[2].Sig.Params[0] = disc
		return m
	}
	with := func(change func(m *api.Module)) api.Module {
		m := fine()
		change(&m)
		return m
	}
	for _, x := range []struct {
		name   string
		m      api.Module
		fn, at int
		want   api.Errno
	}{
		{"a box is no disc", whole(), 2, 7, api.ErrWant},
		{"the second one", bad(fine(), 1, api.OpNop, 99), 1, 1, api.ErrOp},
		{"two at fault", bad(bad(fine(), 1, api.OpNop), 2, 99), 1, 0, api.ErrOff},
		{"no code", bad(fine(), 0), 0, 0, api.ErrOff},
		{"locals", with(func(m *api.Module) { m.Funcs[1].Locals = 17 }), 1, 0, api.ErrArg},
		{"a signature of a later one", with(func(m *api.Module) { m.Funcs[2].Sig.Result = 99 }), 0, 0, api.ErrType},
		{"a class", with(func(m *api.Module) { m.Classes[3].Name = "?" }), 0, 0, api.ErrName},
		{"too long", bad(fine(), 1, make([]byte, 4097)...), 1, 0, api.ErrLong},
		{"too many functions", api.Module{Funcs: slices.Repeat([]api.Func{{Code: []byte{api.OpReturn}}}, 65)}, 0, 0, api.ErrLong},
	} {
		m, fn, at, why := infer.Module(x.m)
		if !reflect.DeepEqual(m, api.Module{}) || fn != x.fn || at != x.at || why != x.want {
			t.Error(x.name, m, fn, at, why)
		}
	}
}

func TestP8_5NoMoreIsLookedAt(t *testing.T) {
	for _, m := range []api.Module{{}, {Name: "?", Classes: []api.Class{{Name: "?"}}, Certs: [][]byte{{1}}}, {Funcs: []api.Func{}}} {
		got, fn, at, why := infer.Module(m)
		if fn != 0 || at != 0 || why != api.OK || len(got.Certs) != 0 || got.Name != m.Name || len(got.Classes) != len(m.Classes) || len(got.Funcs) != 0 {
			t.Error(got, fn, at, why)
		}
	}
	twice := api.Module{Name: "", Funcs: []api.Func{{Name: "f", Code: []byte{api.OpReturn}}, {Name: "f", Code: []byte{api.OpReturn}}}}
	if got, _, _, why := infer.Module(twice); why != api.OK || len(got.Certs) != 2 {
		t.Error("a name twice is nothing to this layer", got, why)
	}
	alone := api.Module{Funcs: []api.Func{{Sig: api.Sig{Params: []api.Type{api.TInt}, Result: api.TInt}, Locals: 2, Code: []byte{api.OpLoad, 0, api.OpReturn}}}}
	if got, _, _, why := infer.Module(alone); why != api.OK || len(got.Certs) != 1 || !bytes.Equal(got.Certs[0], []byte{0x70, 0x76, 1, 2, 0, 0}) {
		t.Error("one function", got, why)
	}
	var most api.Module
	for i := range api.MaxFuncs {
		most.Funcs = append(most.Funcs, api.Func{Name: "f" + strconv.Itoa(i), Sig: api.Sig{Result: api.TInt}, Code: []byte{api.OpCall, byte(api.MaxFuncs - 1 - i), api.OpReturn}})
	}
	if got, _, _, why := infer.Module(most); why != api.OK || len(got.Certs) != api.MaxFuncs {
		t.Error("MaxFuncs", len(got.Certs), why)
	}
}

func TestNothingHandedInIsChanged(t *testing.T) {
	m := whole()
	m.Funcs[2].Sig.Params[0] = disc
	room := []byte{api.OpReturn, 1, 2, 3}
	m.Funcs[1].Code = room[:1]
	was := whole()
	was.Funcs[2].Sig.Params[0] = disc
	was.Funcs[1].Code = []byte{api.OpReturn}
	for fn, f := range m.Funcs {
		e, _ := infer.Env(m, fn)
		kept, _ := infer.Env(m, fn)
		infer.May(e, 3)
		infer.Infer(e, f.Locals, f.Code)
		infer.Emit(e, f.Locals, f.Code)
		if !reflect.DeepEqual(e, kept) {
			t.Error("an environment has changed", fn)
		}
	}
	infer.Module(m)
	if !reflect.DeepEqual(m, was) || !bytes.Equal(room, []byte{api.OpReturn, 1, 2, 3}) {
		t.Error("changed", m, room)
	}
}

func TestAnswersAreNewMemory(t *testing.T) {
	m := whole()
	m.Funcs[2].Sig.Params[0] = disc
	kept := whole()
	kept.Funcs[2].Sig.Params[0] = disc
	got, _, _, why := infer.Module(m)
	e, is := infer.Env(m, 1)
	f, _ := infer.Env(m, 1)
	if why != api.OK || !is {
		t.Fatal(why, is)
	}
	for i := range got.Classes {
		spoil(got.Classes[i].Fields, api.Field{Name: "spoilt"})
		spoil(e.Classes[i].Fields, api.Field{Name: "spoilt"})
	}
	for i := range got.Funcs {
		spoil(got.Funcs[i].Code, 77)
		spoil(got.Funcs[i].Sig.Params, 77)
		spoil(got.Certs[i], 77)
		spoil(e.Sigs[i].Params, 77)
	}
	spoil(got.Classes, api.Class{Name: "spoilt"})
	spoil(got.Funcs, api.Func{Name: "spoilt"})
	spoil(got.Certs, nil)
	spoil(e.Classes, api.Class{Name: "spoilt"})
	spoil(e.Sigs, api.Sig{Result: 77})
	if !reflect.DeepEqual(m, kept) {
		t.Error("an answer's memory is the argument's", m)
	}
	if g, _ := infer.Env(kept, 1); !reflect.DeepEqual(f, g) {
		t.Error("an answer's memory is another one's", f)
	}
	l, _, _ := infer.Infer(f, 1, m.Funcs[1].Code)
	want := slices.Clone(l)
	n, _, _ := infer.Infer(f, 1, m.Funcs[1].Code)
	spoil(n, api.Entry{At: 99})
	p, _, _ := infer.Emit(f, 1, m.Funcs[1].Code)
	spoil(p, 77)
	if again, _, _ := infer.Infer(f, 1, m.Funcs[1].Code); !slices.Equal(l, want) || !slices.Equal(again, want) {
		t.Error("entries are shared", l, again)
	}
}

// spoil writes over all of a list, its spare room too.
func spoil[T any](l []T, with T) {
	l = l[:cap(l)]
	for i := range l {
		l[i] = with
	}
}

func TestRoomBehindTheEndIsNotRead(t *testing.T) {
	b := []byte{api.OpNop, api.OpNop, api.OpReturn, api.OpInt, 0, 0, 0, 1}
	isFault(t, "the return lies behind", function{samples.One(), 0, b[:2]}, 1, api.ErrOff)
	isFault(t, "the operand lies behind", function{samples.One(), 0, append([]byte{api.OpJump, 0, 3}, b[3:]...)[:6]}, 3, api.ErrShort)
	m := whole()
	cut := m
	cut.Funcs = m.Funcs[:1]
	if e, is := infer.Env(cut, 1); is || len(e.Sigs) != 0 {
		t.Error(e, is)
	}
	if e, is := infer.Env(cut, 0); !is || len(e.Sigs) != 1 {
		t.Error(e, is)
	}
}

func TestAllEndsOfAllArguments(t *testing.T) {
	d := dice(103)
	number := func() int { return samples.Numbers()[d.Below(len(samples.Numbers()))] }
	for range 4000 {
		e := samples.World(d.Below(4))
		switch d.Below(6) {
		case 0:
			e.Fn = number()
		case 1:
			e.Sigs[d.Below(4)].Params = slices.Repeat([]api.Type{api.Type(d.Below(256))}, d.Below(20))
		case 2:
			e.Sigs[d.Below(4)].Result = api.Type(d.Below(256))
		case 3:
			e.Classes[d.Below(4)].Parent = number()
		case 4:
			e.Sigs = make([]api.Sig, d.Below(100))
		}
		locals := number()
		if d.Below(2) == 0 {
			locals = d.Below(17)
		}
		b := make([]byte, d.Below(60))
		for i := range b {
			b[i] = byte(d.Below(256))
			if d.Below(3) > 0 {
				b[i] = byte(d.Below(34))
			}
		}
		if why := infer.May(e, locals); why != may(e, locals) {
			t.Fatal(e, locals, why)
		}
		isInferred(t, function{e, locals, b})
		m := api.Module{Classes: e.Classes, Funcs: []api.Func{{Locals: locals, Code: b}, {Locals: number(), Code: b}}}
		infer.Module(m)
		infer.Env(m, number())
	}
}
