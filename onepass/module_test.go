package onepass_test

import (
	"bytes"
	"reflect"
	"slices"
	"testing"

	"proviso/api"
	"proviso/infer"
	"proviso/onepass"
	"proviso/samples"
)

// whole is a module of three functions with their certificates.
func whole(t *testing.T) api.Module {
	t.Helper()
	m, fn, at, why := infer.Module(api.Module{
		Name:    "m",
		Classes: samples.Shapes(),
		Funcs: []api.Func{
			{Name: "f", Sig: api.Sig{Params: []api.Type{disc, api.TInt}, Result: api.TInt}, Locals: 3, Code: []byte{api.OpLoad, 1, back}},
			{Name: "g", Locals: 1, Code: []byte{boolean, 1, unless, 0, 0, back, 99}},
			{Name: "h", Sig: api.Sig{Params: []api.Type{disc}}, Locals: 1, Code: []byte{api.OpLoad, 0, num, 0, 0, 0, 9, api.OpCall, 0, pop, back}},
		},
	})
	if why != api.OK {
		t.Fatal(fn, at, why)
	}
	return m
}

func TestP9_3Module(t *testing.T) {
	for _, x := range []struct {
		name   string
		change func(m *api.Module)
		fn, at int
		want   api.Errno
	}{
		{"as it is", func(m *api.Module) {}, 0, 0, api.OK},
		{"names play no part", func(m *api.Module) { m.Name, m.Funcs[0].Name, m.Funcs[1].Name = "?", "h", "" }, 0, 0, api.OK},
		{"the last function", func(m *api.Module) { m.Funcs[2].Code[9] = nop }, 2, 10, api.ErrResult},
		{"the first of two", func(m *api.Module) { m.Funcs[1].Code[5], m.Funcs[2].Code[0] = pop, 99 }, 1, 5, api.ErrUnder},
		{"the first function", func(m *api.Module) { m.Funcs[0].Code = nil }, 0, 0, api.ErrOff},
		{"a box is no disc", func(m *api.Module) { m.Funcs[2].Sig.Params[0] = box }, 2, 7, api.ErrWant},
		{"what a function calls is another one", func(m *api.Module) { m.Funcs[2].Code[8] = 1 }, 2, 10, api.ErrResult},
		{"no such function", func(m *api.Module) { m.Funcs[2].Code[8] = 3 }, 2, 7, api.ErrFunc},
		{"locals", func(m *api.Module) { m.Funcs[1].Locals = 17 }, 1, 0, api.ErrArg},
		{"fewer locals than parameters", func(m *api.Module) { m.Funcs[2].Locals = 0 }, 2, 0, api.ErrArg},
		{"other locals than the certificate's", func(m *api.Module) { m.Funcs[1].Locals = 2 }, 1, 0, api.ErrShape},
		{"long code", func(m *api.Module) { m.Funcs[1].Code = make([]byte, 4097) }, 1, 0, api.ErrLong},
		{"a certificate cut off", func(m *api.Module) { m.Certs[1] = m.Certs[1][:7] }, 1, 7, api.ErrShort},
		{"another one's certificate", func(m *api.Module) { m.Certs[1] = m.Certs[2] }, 1, 2, api.ErrMissing},
		{"no certificate", func(m *api.Module) { m.Certs[0] = nil }, 0, 0, api.ErrShort},
		{"fewer Certs", func(m *api.Module) { m.Certs = m.Certs[:2] }, 0, 0, api.ErrArg},
		{"more Certs", func(m *api.Module) { m.Certs = append(m.Certs, m.Certs[0]) }, 0, 0, api.ErrArg},
		{"fewer Certs ahead of a fault", func(m *api.Module) { m.Certs, m.Funcs[0].Code = nil, nil }, 0, 0, api.ErrArg},
		{"a table that can't be", func(m *api.Module) { m.Classes[3].Name = "box" }, 0, 0, api.ErrArg},
		{"a later one's signature", func(m *api.Module) { m.Funcs[2].Sig.Result = api.TNull }, 0, 0, api.ErrArg},
		{"too many of them", func(m *api.Module) {
			m.Funcs = slices.Repeat([]api.Func{m.Funcs[1]}, 65)
			m.Certs = slices.Repeat([][]byte{m.Certs[1]}, 65)
		}, 0, 0, api.ErrArg},
		{"MaxFuncs", func(m *api.Module) {
			m.Funcs = slices.Repeat([]api.Func{m.Funcs[1]}, 64)
			m.Certs = slices.Repeat([][]byte{m.Certs[1]}, 64)
		}, 0, 0, api.OK},
		{"the last of MaxFuncs", func(m *api.Module) {
			m.Funcs = slices.Repeat([]api.Func{m.Funcs[1]}, 64)
			m.Certs = slices.Repeat([][]byte{m.Certs[1]}, 64)
			m.Funcs[63].Code = []byte{nop}
		}, 63, 0, api.ErrOff},
	} {
		m := whole(t)
		x.change(&m)
		if fn, at, why := onepass.Module(m); fn != x.fn || at != x.at || why != x.want {
			t.Error(x.name, fn, at, why)
		}
	}
	for _, m := range []api.Module{{}, {Name: "m", Classes: samples.Shapes()}, {Funcs: []api.Func{}, Certs: [][]byte{}}} {
		if fn, at, why := onepass.Module(m); fn != 0 || at != 0 || why != api.ErrArg {
			t.Error("no functions", fn, at, why)
		}
	}
}

// TestP9_3HeldAgainstItsWords asks Check of each function of modules, some of which are not sound.
func TestP9_3HeldAgainstItsWords(t *testing.T) {
	d, well, ill := dice(13), 0, 0
	for range 600 {
		m := api.Module{Classes: samples.Shapes()}
		for fn, s := range samples.World(0).Sigs {
			x := proved(&d)
			for x.e.Fn != fn {
				x = proved(&d)
			}
			if d.Below(20) == 0 {
				x.proof = bent(&d, x)
			}
			m.Funcs = append(m.Funcs, api.Func{Sig: s, Locals: x.locals, Code: x.b})
			m.Certs = append(m.Certs, x.proof)
		}
		number, place, err := 0, 0, api.OK
		for fn := len(m.Funcs) - 1; fn >= 0; fn-- {
			if _, at, why := answered(function{samples.World(fn), m.Funcs[fn].Locals, m.Funcs[fn].Code, m.Certs[fn]}); why != api.OK {
				number, place, err = fn, at, why
			}
		}
		if fn, at, why := onepass.Module(m); fn != number || at != place || why != err {
			t.Fatal(fn, at, why, "want", number, place, err)
		}
		if err == api.OK {
			well++
		} else if number > 0 {
			ill++
		}
	}
	if well < 20 || ill < 20 {
		t.Error("few", well, ill)
	}
}

func TestNothingHandedInIsChanged(t *testing.T) {
	m, was := whole(t), whole(t)
	code := append(bytes.Clone(m.Funcs[1].Code), 5, 6, 7)
	proof := append(bytes.Clone(m.Certs[1]), 5, 6, 7)
	m.Funcs[1].Code, m.Certs[1] = code[:len(code)-3], proof[:len(proof)-3]
	keptCode, keptProof := bytes.Clone(code), bytes.Clone(proof)
	if _, _, why := onepass.Module(m); why != api.OK {
		t.Error("room behind the end is read", why)
	}
	for fn, f := range m.Funcs {
		e, _ := infer.Env(m, fn)
		kept, _ := infer.Env(m, fn)
		onepass.Check(e, f.Locals, f.Code, m.Certs[fn])
		onepass.Watch(e, f.Locals, len(f.Code), func(at int) byte { return f.Code[at] }, m.Certs[fn])
		if !reflect.DeepEqual(e, kept) {
			t.Error("an environment has changed", fn)
		}
	}
	if !reflect.DeepEqual(m, was) || !bytes.Equal(code, keptCode) || !bytes.Equal(proof, keptProof) {
		t.Error("changed", m)
	}
}

func TestAnswersAreNewMemory(t *testing.T) {
	x := function{samples.One(), 0, append(make([]byte, 9), back), proofOf(t, 0, none(0), none(5))}
	g, _, _ := onepass.Check(x.e, x.locals, x.b, x.proof)
	want := slices.Clone(g.Fetched)
	h, _, _ := onepass.Check(x.e, x.locals, x.b, x.proof)
	spoil(h.Fetched, 77)
	if again, _, _ := onepass.Check(x.e, x.locals, x.b, x.proof); !slices.Equal(g.Fetched, want) || !slices.Equal(again.Fetched, want) {
		t.Error("lists are shared", g, again)
	}
}

func TestRoomBehindTheEndIsNotRead(t *testing.T) {
	b := []byte{nop, nop, back, num, 0, 0, 0, 1}
	isFault(t, "the return lies behind", function{samples.One(), 0, b[:2], proofOf(t, 0)}, 1, api.ErrOff)
	isFault(t, "the operand lies behind", function{samples.One(), 0, b[3:6], proofOf(t, 0)}, 0, api.ErrShort)
	p := proofOf(t, 0, none(0), dead(3))
	isFault(t, "the certificate's end lies behind", function{samples.One(), 0, b[:3], p[:8]}, 8, api.ErrShort)
	m := whole(t)
	m.Certs = m.Certs[:2]
	if fn, at, why := onepass.Module(m); fn != 0 || at != 0 || why != api.ErrArg {
		t.Error("a certificate lies behind", fn, at, why)
	}
	m.Funcs = m.Funcs[:2]
	if fn, at, why := onepass.Module(m); fn != 0 || at != 0 || why != api.OK {
		t.Error("two functions", fn, at, why)
	}
}

// somehow is an environment that can't be more often than not.
func somehow(d *dice) api.Env {
	number := func() int { return samples.Numbers()[d.Below(len(samples.Numbers()))] }
	e := samples.World(d.Below(4))
	switch d.Below(6) {
	case 0:
		e.Fn = number()
	case 1:
		e.Sigs[d.Below(4)].Params = slices.Repeat([]api.Type{api.Type(d.Below(256))}, d.Below(20))
	case 2:
		e.Sigs[d.Below(4)].Result = api.Type(d.Below(256))
	case 3:
		e.Classes[d.Below(4)].Parent = number()
	case 4:
		e.Sigs = make([]api.Sig, d.Below(100))
	}
	return e
}

func TestAllEndsOfAllArguments(t *testing.T) {
	d := dice(17)
	for range 4000 {
		x := function{e: somehow(&d), locals: d.Below(17), b: make([]byte, d.Below(60)), proof: make([]byte, d.Below(40))}
		if d.Below(3) == 0 {
			x.locals = samples.Numbers()[d.Below(len(samples.Numbers()))]
		}
		for i := range x.b {
			x.b[i] = byte(d.Below(256))
			if d.Below(3) > 0 {
				x.b[i] = byte(d.Below(34))
			}
		}
		for i := range x.proof {
			x.proof[i] = byte(d.Below(3))
		}
		if d.Below(2) == 0 {
			copy(x.proof, []byte{0x70, 0x76, 1, byte(x.locals), 0})
		}
		isChecked(t, x)
		n := samples.Numbers()[d.Below(len(samples.Numbers()))]
		onepass.Watch(x.e, x.locals, n, func(at int) byte { return x.b[at] }, x.proof)
		onepass.Module(api.Module{Classes: x.e.Classes, Funcs: []api.Func{{Locals: x.locals, Code: x.b}, {Locals: n, Code: x.b}}, Certs: [][]byte{x.proof, x.proof}})
	}
}
