package opt_test

import (
	"bytes"
	"reflect"
	"slices"
	"testing"

	"proviso/api"
	"proviso/opt"
	"proviso/samples"
)

// whole is a module of three functions, with all that a module has.
func whole(t *testing.T) api.Module {
	return api.Module{Name: "m", Classes: samples.Shapes(), Certs: [][]byte{{1}, {2, 3}, nil}, Funcs: []api.Func{
		{Name: "f", Sig: api.Sig{Params: []api.Type{api.TInt, samples.Disc}, Result: api.TInt}, Locals: 4, Code: assembled(t, "int 1; int 2; add; return")},
		{Name: "g", Code: assembled(t, "nop; return")},
		{Name: "h", Sig: api.Sig{Params: []api.Type{api.TBool}}, Locals: 1, Code: assembled(t, "load 0; unless a; trap 1; a: return")},
	}}
}

func TestP19_2Module(t *testing.T) {
	want := whole(t)
	want.Certs = nil
	for i, f := range want.Funcs {
		want.Funcs[i], _ = opt.Func(f)
	}
	got, why := opt.Module(whole(t))
	if why != api.OK || show(got) != show(want) || len(got.Certs) != 0 {
		t.Error(got, why)
	}
	if !bytes.Equal(got.Funcs[0].Code, assembled(t, "int 3; return")) || !bytes.Equal(got.Funcs[1].Code, []byte{api.OpReturn}) || !bytes.Equal(got.Funcs[2].Code, whole(t).Funcs[2].Code) {
		t.Error(got)
	}
}

func TestP19_2TheFirstFunctionAtFault(t *testing.T) {
	for _, x := range []struct {
		codes [3][]byte
		why   api.Errno
	}{
		{[3][]byte{{22}, {22}, {34}}, api.ErrOp},
		{[3][]byte{{22}, {0}, {34}}, api.ErrOff},
		{[3][]byte{{19, 0, 1}, {0}, {34}}, api.ErrTarget},
		{[3][]byte{{22}, make([]byte, 4097), nil}, api.ErrLong},
		{[3][]byte{nil, make([]byte, 4097), {2, 2}}, api.ErrOff},
		{[3][]byte{{0, 22}, {2, 2, 22}, {1, 0}}, api.ErrRange},
		{[3][]byte{{0, 22}, {1, 0}, {2, 2, 22}}, api.ErrShort},
	} {
		m := whole(t)
		for i, b := range x.codes {
			m.Funcs[i].Code = b
		}
		if got, why := opt.Module(m); why != x.why || show(got) != show(api.Module{}) {
			t.Error(x.codes, got, why)
		}
	}
}

func TestP19_2NoMoreIsLookedAt(t *testing.T) {
	for _, m := range []api.Module{{}, {Funcs: []api.Func{}, Classes: []api.Class{}, Certs: [][]byte{}}, {Certs: [][]byte{{1}, {2}}}, {Name: "?", Classes: []api.Class{{Name: "?", Parent: 7, Fields: []api.Field{{Type: 99}}}}}} {
		want := m
		want.Certs = nil
		if got, why := opt.Module(m); why != api.OK || show(got) != show(want) {
			t.Error(got, why)
		}
	}
	many := api.Module{Funcs: slices.Repeat([]api.Func{{Name: "f", Code: []byte{0, 22}}}, 300)}
	got, why := opt.Module(many)
	if why != api.OK || len(got.Funcs) != 300 {
		t.Fatal(len(got.Funcs), why)
	}
	for _, f := range got.Funcs {
		if f.Name != "f" || !bytes.Equal(f.Code, []byte{22}) {
			t.Error(f)
		}
	}
}

// roomy is a list with something behind its end.
func roomy[T any](l []T, behind T) []T { return append(slices.Clip(l), behind)[:len(l)] }

func TestNothingHandedInIsChanged(t *testing.T) {
	withRoom := func() api.Module {
		m := whole(t)
		for i := range m.Funcs {
			m.Funcs[i].Code = roomy(m.Funcs[i].Code, 77)
			m.Funcs[i].Sig.Params = roomy(m.Funcs[i].Sig.Params, 77)
		}
		for i := range m.Classes {
			m.Classes[i].Fields = roomy(m.Classes[i].Fields, api.Field{Name: "behind"})
		}
		m.Classes = roomy(m.Classes, api.Class{Name: "behind"})
		m.Funcs = roomy(m.Funcs, api.Func{Name: "behind"})
		m.Certs = roomy(m.Certs, []byte{77})
		return m
	}
	m, was := withRoom(), withRoom()
	opt.Module(m)
	for _, f := range m.Funcs {
		opt.Func(f)
	}
	for i := range m.Funcs {
		if n := len(m.Funcs[i].Code); m.Funcs[i].Code[:n+1][n] != 77 || m.Funcs[i].Sig.Params[:len(was.Funcs[i].Sig.Params)+1][len(was.Funcs[i].Sig.Params)] != 77 {
			t.Error("the room behind has changed", i)
		}
	}
	if !reflect.DeepEqual(m, was) || m.Classes[:5][4].Name != "behind" || m.Funcs[:4][3].Name != "behind" || m.Certs[:4][3][0] != 77 || m.Classes[0].Fields[:2][1].Name != "behind" {
		t.Error(m)
	}
	// what stands behind an end is not read
	b := []byte{api.OpNop, api.OpReturn, api.OpReturn}
	if _, why := opt.Func(api.Func{Code: b[:1]}); why != api.ErrOff {
		t.Error(why)
	}
}

func TestAnswersAreNewMemory(t *testing.T) {
	m := whole(t)
	got, _ := opt.Module(m)
	other, _ := opt.Module(m)
	kept, _ := opt.Module(whole(t))
	f, _ := opt.Func(m.Funcs[0])
	for i := range got.Funcs {
		samples.Overwrite(got.Funcs[i].Code, 77)
		samples.Overwrite(got.Funcs[i].Sig.Params, 77)
	}
	for i := range got.Classes {
		samples.Overwrite(got.Classes[i].Fields, api.Field{Name: "spoilt"})
	}
	samples.Overwrite(got.Classes, api.Class{Name: "spoilt"})
	samples.Overwrite(got.Funcs, api.Func{Name: "spoilt"})
	samples.Overwrite(f.Code, 77)
	samples.Overwrite(f.Sig.Params, 77)
	if !reflect.DeepEqual(m, whole(t)) || show(other) != show(kept) {
		t.Error(m, other)
	}
	// nothing to do: a copy all the same
	g := api.Func{Sig: api.Sig{Params: []api.Type{1}}, Code: []byte{api.OpReturn}}
	h, _ := opt.Func(g)
	samples.Overwrite(h.Code, 77)
	samples.Overwrite(h.Sig.Params, 77)
	if g.Code[0] != api.OpReturn || g.Sig.Params[0] != 1 {
		t.Error(g)
	}
}

func TestNilAndEmptyListsAreOne(t *testing.T) {
	f, why := opt.Func(api.Func{Sig: api.Sig{Params: []api.Type{}}, Code: []byte{22}})
	g, also := opt.Func(api.Func{Code: []byte{22}})
	if show(f) != show(g) || why != also || why != api.OK {
		t.Error(f, g, why, also)
	}
	_, why = opt.Func(api.Func{Code: []byte{}})
	_, also = opt.Func(api.Func{})
	if why != api.ErrOff || also != why {
		t.Error(why, also)
	}
}

func TestTheSameAgain(t *testing.T) {
	d := dice(9)
	for range 2000 {
		f := api.Func{Code: loose(&d, 1+d.Below(40))}
		a, _ := opt.Func(f)
		opt.Func(api.Func{Code: loose(&d, 1+d.Below(40))})
		if b, _ := opt.Func(f); show(a) != show(b) {
			t.Fatal(words(f.Code))
		}
	}
}
