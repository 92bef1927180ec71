package module_test

import (
	"bytes"
	"fmt"
	"strconv"
	"strings"
	"testing"

	"proviso/api"
	"proviso/gen"
	"proviso/infer"
	"proviso/module"
	"proviso/samples"
)

type dice = samples.Dice

func pick[T any](d *dice, l []T) T { return l[d.Below(len(l))] }

// show is all fields of a module; an empty list is none.
func show(m api.Module) string { return fmt.Sprintf("%+v", m) }

// copied is a module that shares nothing with another one, nor has room behind its lists' ends.
func copied(m api.Module) api.Module {
	n := api.Module{Name: m.Name}
	for _, c := range m.Classes {
		c.Fields = append([]api.Field(nil), c.Fields...)
		n.Classes = append(n.Classes, c)
	}
	for _, f := range m.Funcs {
		f.Sig.Params = append([]api.Type(nil), f.Sig.Params...)
		f.Code = bytes.Clone(f.Code)
		n.Funcs = append(n.Funcs, f)
	}
	for _, c := range m.Certs {
		n.Certs = append(n.Certs, bytes.Clone(c))
	}
	return n
}

func shapes() api.Module {
	return api.Module{Name: "shapes", Classes: samples.Shapes(), Funcs: []api.Func{
		{Name: "f", Code: []byte{0x16}},
		{Name: "g", Sig: api.Sig{Params: []api.Type{samples.Disc, api.TInt}, Result: api.TBool}, Locals: 3, Code: []byte{1, 2, 3}},
		{Name: "h", Sig: api.Sig{Params: []api.Type{api.TAny}, Result: samples.List}, Locals: 16, Code: []byte{0}},
	}, Certs: [][]byte{{}, {1, 2}, {3}}}
}

// greatest has as much of everything as may be, but for code and certificates.
func greatest() api.Module {
	m := api.Module{Name: strings.Repeat("m", 24)}
	for c := range 32 {
		k := api.Class{Name: "class" + strconv.Itoa(c), Parent: -1}
		for i := range 32 {
			k.Fields = append(k.Fields, api.Field{Name: "a_rather_long_name_" + strconv.Itoa(i), Type: api.TClass + api.Type((c+i)%32)})
		}
		m.Classes = append(m.Classes, k)
	}
	for i := range 64 {
		f := api.Func{Name: "fun" + strconv.Itoa(i), Locals: 16, Code: []byte{byte(i)}, Sig: api.Sig{Result: api.TAny}}
		for n := range 8 {
			f.Sig.Params = append(f.Sig.Params, api.TClass+api.Type(n*4))
		}
		m.Funcs = append(m.Funcs, f)
	}
	return m
}

func name(d *dice, prefix string, n int) string {
	if d.Below(20) == 0 {
		prefix = strings.Repeat(prefix, 21)
	}
	return prefix + strconv.Itoa(n)
}

func someBytes(d *dice, n int) []byte {
	b := make([]byte, n)
	for i := range b {
		b[i] = byte(d.Below(256))
	}
	return b
}

// any module that may be, as the dice fall; one in four comes out of a source text.
func some(d *dice) api.Module {
	if d.Below(4) == 0 {
		m, _ := gen.Compile("made", samples.Source(d, 4))
		m, _, _, _ = infer.Module(m)
		return m
	}
	m := api.Module{Name: name(d, "m", 0)}
	n := d.Below(5)
	types := []api.Type{api.TInt, api.TBool, api.TInts, api.TAny}
	for c := range n {
		types = append(types, api.TClass+api.Type(c))
	}
	fields := 0
	for c := range n {
		k := api.Class{Name: name(d, "c", c), Parent: d.Below(c+1) - 1}
		for range d.Below(4) {
			k.Fields = append(k.Fields, api.Field{Name: name(d, "x", fields), Type: pick(d, types)})
			fields++
		}
		m.Classes = append(m.Classes, k)
	}
	for i := range d.Below(5) {
		f := api.Func{Name: name(d, "f", i), Code: someBytes(d, 1+d.Below(20))}
		for range d.Below(9) {
			f.Sig.Params = append(f.Sig.Params, pick(d, types))
		}
		f.Locals = len(f.Sig.Params) + d.Below(9)
		f.Sig.Result = pick(d, append(types, api.TTop))
		m.Funcs = append(m.Funcs, f)
	}
	if d.Below(2) == 0 {
		for range m.Funcs {
			m.Certs = append(m.Certs, someBytes(d, d.Below(12)))
		}
	}
	return m
}

// file is a module's, that must have one.
func file(t *testing.T, m api.Module) []byte {
	t.Helper()
	b, why := module.Encode(m)
	if why != api.OK {
		t.Fatalf("%.300s: %v", show(m), why)
	}
	return b
}

// isRead holds Decode against the words: its error.
func isRead(t *testing.T, b []byte) api.Errno {
	t.Helper()
	want, place, err := read(b)
	m, at, why := module.Decode(b)
	if show(m) != show(want) || at != place || why != err {
		t.Fatalf("% x\n%.300s %d %v\nwanted\n%.300s %d %v", b[:min(300, len(b))], show(m), at, why, show(want), place, err)
	}
	return why
}

// isRefused holds Decode against a place and an error.
func isRefused(t *testing.T, b []byte, place int, err api.Errno) {
	t.Helper()
	m, at, why := module.Decode(b)
	if show(m) != show(api.Module{}) || at != place || why != err {
		t.Errorf("% x: %.200s %d %v, wanted %d %v", b[:min(60, len(b))], show(m), at, why, place, err)
	}
}
