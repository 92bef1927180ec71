package module_test

import (
	"slices"
	"strconv"
	"strings"
	"testing"

	"proviso/api"
	"proviso/module"
	"proviso/samples"
)

// wrong is something that makes shapes a module that may not be: of these, the one ahead is told.
type wrong struct {
	at     int
	why    api.Errno
	change func(m *api.Module)
}

// wrongs are in the chapter's order; those of a function are all of number 1.
func wrongs() []wrong {
	fn := func(why api.Errno, change func(f *api.Func)) wrong {
		return wrong{1, why, func(m *api.Module) { change(&m.Funcs[1]) }}
	}
	return []wrong{
		{0, api.ErrName, func(m *api.Module) { m.Name = "" }},
		{2, api.ErrName, func(m *api.Module) { m.Classes[2].Name = "int" }},
		{3, api.ErrParent, func(m *api.Module) { m.Classes[3].Parent = 3 }},
		{64, api.ErrLong, func(m *api.Module) { m.Funcs = append(m.Funcs, make([]api.Func, 62)...) }},
		{0, api.ErrShort, func(m *api.Module) { m.Funcs[0].Code = nil }},
		fn(api.ErrName, func(f *api.Func) { f.Name = "1" }),
		fn(api.ErrTwice, func(f *api.Func) { f.Name = "f" }),
		fn(api.ErrLong, func(f *api.Func) { f.Sig.Params = make([]api.Type, 9) }),
		fn(api.ErrType, func(f *api.Func) { f.Sig.Params[1] = api.TNull }),
		fn(api.ErrType, func(f *api.Func) { f.Sig.Result = api.TNull }),
		fn(api.ErrRange, func(f *api.Func) { f.Locals = 17 }),
		fn(api.ErrShort, func(f *api.Func) { f.Code = []byte{} }),
		fn(api.ErrLong, func(f *api.Func) { f.Code = make([]byte, 4097) }),
		{2, api.ErrTwice, func(m *api.Module) { m.Funcs[2].Name = "f" }},
		{0, api.ErrCerts, func(m *api.Module) { m.Certs = m.Certs[:2] }},
		{1, api.ErrLong, func(m *api.Module) { m.Certs[1] = make([]byte, 65536) }},
		{2, api.ErrLong, func(m *api.Module) { m.Certs = append(m.Certs[:2], make([]byte, 65536)) }},
	}
}

// isFault holds Check against a number and an error, and Encode.
func isFault(t *testing.T, m api.Module, place int, err api.Errno) {
	t.Helper()
	at, why := module.Check(m)
	if at != place || why != err {
		t.Errorf("%.200s: %d %v, wanted %d %v", show(m), at, why, place, err)
	}
	if b, why := module.Encode(m); why != err || err != api.OK && len(b) > 0 {
		t.Errorf("%.200s: Encode %v, wanted %v", show(m), why, err)
	}
}

func TestP16_1TheFirstFault(t *testing.T) {
	isFault(t, shapes(), 0, api.OK)
	all := wrongs()
	for i, one := range all {
		m := shapes()
		one.change(&m)
		isFault(t, m, one.at, one.why)
		for _, behind := range all[i+1:] { // the one behind is put in first: where both are of one thing, the one ahead stays
			m := shapes()
			behind.change(&m)
			one.change(&m)
			isFault(t, m, one.at, one.why)
		}
	}
}

func TestP16_1Names(t *testing.T) {
	for _, name := range []string{"a", "A", "z_", "x1", "int", "top", "a" + strings.Repeat("_", 23)} {
		m := shapes()
		m.Name = name
		isFault(t, m, 0, api.OK)
		m.Funcs[2].Name = name
		isFault(t, m, 0, api.OK)
	}
	for _, name := range []string{"", "1", "_", " a", "a ", "a-b", "é", "a\x00", "a" + strings.Repeat("_", 24)} {
		m := shapes()
		m.Funcs[2].Name = name
		isFault(t, m, 2, api.ErrName)
		m.Name = name
		isFault(t, m, 0, api.ErrName)
	}
	m := shapes() // a module, a class, a field and a function may have one name
	m.Name, m.Funcs[0].Name, m.Classes[1].Name, m.Classes[1].Fields[0].Name = "same", "same", "same", "same"
	isFault(t, m, 0, api.OK)
	m.Funcs[2].Name = "same"
	isFault(t, m, 2, api.ErrTwice)
}

func TestP16_1Types(t *testing.T) {
	for c := range 256 {
		is := api.Type(c)
		m := shapes()
		m.Funcs[2].Sig.Params[0] = is
		why := api.ErrType
		if slices.Contains([]api.Type{api.TInt, api.TBool, api.TInts, api.TAny, 16, 17, 18, 19}, is) {
			why = api.OK
		}
		if at, e := module.Check(m); e != why || (why != api.OK) != (at == 2) {
			t.Error(c, at, e)
		}
		m = shapes()
		m.Funcs[2].Sig.Result = is
		if is == api.TTop {
			why = api.OK
		}
		if at, e := module.Check(m); e != why || (why != api.OK) != (at == 2) {
			t.Error(c, at, e)
		}
	}
	m := api.Module{Name: "m", Funcs: []api.Func{{Name: "f", Sig: api.Sig{Result: api.TClass}, Code: []byte{0}}}}
	isFault(t, m, 0, api.ErrType) // without classes
}

func TestP16_1Limits(t *testing.T) {
	for _, n := range append(samples.Numbers(), 8, 9) {
		m := shapes()
		m.Funcs[1].Locals = n
		why := api.OK
		if n < 2 || n > 16 {
			why = api.ErrRange
		}
		if at, e := module.Check(m); e != why || (why != api.OK) != (at == 1) {
			t.Error(n, at, e)
		}
	}
	for n := range 10 {
		m := shapes()
		m.Funcs[0].Sig.Params, m.Funcs[0].Locals = slices.Repeat([]api.Type{api.TInt}, n), n
		if at, why := module.Check(m); at != 0 || (why == api.OK) != (n <= 8) || why != api.OK && why != api.ErrLong {
			t.Error(n, at, why)
		}
	}
	for n, why := range map[int]api.Errno{0: api.ErrShort, 1: api.OK, 4095: api.OK, 4096: api.OK, 4097: api.ErrLong, 65536: api.ErrLong} {
		m := shapes()
		m.Funcs[2].Code = make([]byte, n)
		if at, e := module.Check(m); e != why || (why != api.OK) != (at == 2) {
			t.Error(n, at, e)
		}
	}
	for n, why := range map[int]api.Errno{0: api.OK, 1: api.OK, 65535: api.OK, 65536: api.ErrLong, 1 << 20: api.ErrLong} {
		m := shapes()
		m.Certs[2] = make([]byte, n)
		if at, e := module.Check(m); e != why || (why != api.OK) != (at == 2) {
			t.Error(n, at, e)
		}
	}
	for n := range 6 { // three functions
		m := shapes()
		m.Certs = make([][]byte, n)
		if at, why := module.Check(m); at != 0 || (why == api.OK) != (n == 0 || n == 3) || why != api.OK && why != api.ErrCerts {
			t.Error(n, at, why)
		}
	}
	isFault(t, api.Module{Name: "m", Certs: [][]byte{{}}}, 0, api.ErrCerts)
	isFault(t, api.Module{Name: "m", Certs: [][]byte{}}, 0, api.OK)
	isFault(t, greatest(), 0, api.OK)
	m := greatest()
	m.Funcs = append(m.Funcs, api.Func{Name: "more", Code: []byte{0}})
	isFault(t, m, 64, api.ErrLong)
	m.Funcs = append(m.Funcs, make([]api.Func, 5000)...)
	isFault(t, m, 64, api.ErrLong)
	m = greatest()
	m.Classes = append(m.Classes, api.Class{Name: "more", Parent: -1})
	isFault(t, m, 32, api.ErrLong)
	m = greatest()
	m.Classes[9].Fields = append(m.Classes[9].Fields, api.Field{Name: "more", Type: api.TInt})
	isFault(t, m, 9, api.ErrLong)
}

// spoilt has something changed, whatever it may be then.
func spoilt(d *dice, m *api.Module) {
	number := pick(d, append(samples.Numbers(), d.Below(20), d.Below(20)))
	text := pick(d, []string{"", "f0", "f1", "c0", "x0", "int", "1", strings.Repeat("n", 24), strings.Repeat("n", 25)})
	is := api.Type(d.Below(30))
	if len(m.Classes) == 0 || len(m.Funcs) == 0 || d.Below(12) == 0 {
		m.Classes = append(m.Classes, api.Class{Name: text, Parent: d.Below(4) - 2})
		m.Funcs = append(m.Funcs, api.Func{Name: text, Locals: d.Below(3), Code: make([]byte, d.Below(2))})
		return
	}
	c, f := &m.Classes[d.Below(len(m.Classes))], &m.Funcs[d.Below(len(m.Funcs))]
	switch d.Below(12) {
	case 0:
		m.Name = text
	case 1:
		c.Name = text
	case 2:
		c.Parent = number
	case 3:
		c.Fields = append(c.Fields, api.Field{Name: text, Type: is})
	case 4, 5:
		f.Name = text
	case 6:
		f.Locals = number
	case 7:
		f.Sig.Result = is
	case 8:
		f.Sig.Params = append(f.Sig.Params, is)
	case 9:
		f.Code = make([]byte, pick(d, []int{0, 0, 1, 4096, 4097}))
	case 10:
		m.Certs = append(m.Certs, []byte{1})
	case 11:
		if len(m.Certs) > 0 {
			m.Certs[d.Below(len(m.Certs))] = make([]byte, 65535+d.Below(2))
		}
	}
}

func TestP16_1HeldAgainstTheWords(t *testing.T) {
	d, came := dice(3), map[api.Errno]int{}
	for range 20000 {
		m := some(&d)
		for range 1 + d.Below(3) {
			spoilt(&d, &m)
		}
		place, err := fault(m)
		isFault(t, m, place, err)
		came[err]++
	}
	for _, why := range []api.Errno{api.OK, api.ErrName, api.ErrTwice, api.ErrParent, api.ErrType, api.ErrLong, api.ErrRange, api.ErrShort, api.ErrCerts} {
		if came[why] < 100 {
			t.Error(why, "hardly comes", came)
		}
	}
}

func TestP16_4Entry(t *testing.T) {
	m := shapes()
	for i, name := range []string{"f", "g", "h"} {
		if n, is := module.Entry(m, name); n != i || !is {
			t.Error(name, n, is)
		}
	}
	for _, name := range []string{"", "F", "ff", " f", "shape", "shapes", "x", "i"} {
		if n, is := module.Entry(m, name); n != 0 || is {
			t.Error(name, n, is)
		}
	}
	m.Funcs[2].Name = "g" // the first one
	if n, is := module.Entry(m, "g"); n != 1 || !is {
		t.Error(n, is)
	}
	m = greatest()
	for i := range 64 {
		if n, is := module.Entry(m, "fun"+strconv.Itoa(i)); n != i || !is {
			t.Error(i, n, is)
		}
	}
	if n, is := module.Entry(api.Module{}, "f"); n != 0 || is {
		t.Error(n, is)
	}
	if n, is := module.Entry(api.Module{Funcs: make([]api.Func, 3)}, ""); n != 0 || !is {
		t.Error(n, is)
	}
}

func TestP16_4Same(t *testing.T) {
	for i, change := range []func(m *api.Module){
		func(m *api.Module) { m.Name = "other" },
		func(m *api.Module) { m.Classes = m.Classes[:3] },
		func(m *api.Module) { m.Classes = append(m.Classes, api.Class{}) },
		func(m *api.Module) { m.Classes[1].Name = "other" },
		func(m *api.Module) { m.Classes[1].Parent = -1 },
		func(m *api.Module) { m.Classes[1].Fields = nil },
		func(m *api.Module) { m.Classes[2].Fields = m.Classes[2].Fields[1:] },
		func(m *api.Module) { m.Classes[2].Fields[1].Name = "other" },
		func(m *api.Module) { m.Classes[2].Fields[1].Type = api.TInts },
		func(m *api.Module) { m.Classes[0], m.Classes[3] = m.Classes[3], m.Classes[0] },
		func(m *api.Module) { m.Funcs = m.Funcs[1:] },
		func(m *api.Module) { m.Funcs = append(m.Funcs, api.Func{}) },
		func(m *api.Module) { m.Funcs[0], m.Funcs[1] = m.Funcs[1], m.Funcs[0] },
		func(m *api.Module) { m.Funcs[2].Name = "other" },
		func(m *api.Module) { m.Funcs[2].Sig.Params = nil },
		func(m *api.Module) { m.Funcs[1].Sig.Params[0] = api.TInt },
		func(m *api.Module) { m.Funcs[1].Sig.Params = append(m.Funcs[1].Sig.Params, 0) },
		func(m *api.Module) { m.Funcs[2].Sig.Result = api.TTop },
		func(m *api.Module) { m.Funcs[2].Locals = 15 },
		func(m *api.Module) { m.Funcs[0].Code = nil },
		func(m *api.Module) { m.Funcs[1].Code[2]++ },
		func(m *api.Module) { m.Funcs[1].Code = m.Funcs[1].Code[:2] },
		func(m *api.Module) { m.Certs = nil },
		func(m *api.Module) { m.Certs = m.Certs[:2] },
		func(m *api.Module) { m.Certs[1][1]++ },
		func(m *api.Module) { m.Certs[0] = []byte{0} },
		func(m *api.Module) { m.Certs[2] = nil },
	} {
		a, b := shapes(), shapes()
		if !module.Same(a, b) {
			t.Fatal("not the same as itself")
		}
		change(&b)
		if module.Same(a, b) || module.Same(b, a) {
			t.Error(i, show(b))
		}
		if !module.Same(b, copied(b)) { // whether it may be or not
			t.Error(i, "not the same as itself")
		}
	}
	empty := api.Module{Classes: []api.Class{}, Funcs: []api.Func{}, Certs: [][]byte{}}
	inner := api.Module{Classes: []api.Class{{Fields: []api.Field{}}}, Funcs: []api.Func{{Sig: api.Sig{Params: []api.Type{}}, Code: []byte{}}}, Certs: [][]byte{{}}}
	bare := api.Module{Classes: make([]api.Class, 1), Funcs: make([]api.Func, 1), Certs: make([][]byte, 1)}
	if !module.Same(empty, api.Module{}) || !module.Same(api.Module{}, empty) || !module.Same(inner, bare) || !module.Same(bare, inner) || module.Same(empty, bare) {
		t.Error("nil and empty are one")
	}
	d := dice(4)
	for range 3000 {
		a := some(&d)
		b := copied(a)
		if d.Below(2) == 0 {
			spoilt(&d, &b)
		}
		if module.Same(a, b) != (show(a) == show(b)) || module.Same(b, a) != module.Same(a, b) {
			t.Fatal(show(a), show(b))
		}
	}
}
