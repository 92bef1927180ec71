package module_test

import (
	"bytes"
	"slices"
	"strings"
	"testing"

	"proviso/api"
	"proviso/module"
	"proviso/samples"
)

func TestP16_5ThereAndBack(t *testing.T) {
	d := dice(7)
	for range 5000 {
		m := some(&d)
		n, at, why := module.Decode(file(t, m))
		if at != 0 || why != api.OK || !module.Same(m, n) || show(m) != show(n) {
			t.Fatal(show(m), show(n), at, why)
		}
	}
	for _, m := range []api.Module{{Name: "m"}, shapes(), greatest(), {Name: "m", Classes: []api.Class{}, Funcs: []api.Func{}, Certs: [][]byte{}}} {
		if n, at, why := module.Decode(file(t, m)); at != 0 || why != api.OK || !module.Same(m, n) || show(m) != show(n) {
			t.Fatal(show(m), show(n), at, why)
		}
	}
}

func TestP16_6OneForm(t *testing.T) {
	d, came := dice(8), 0
	for range 5000 {
		b := file(t, some(&d))
		for range 5 {
			if m, _, why := module.Decode(b); why == api.OK {
				if !bytes.Equal(file(t, m), b) {
					t.Fatalf("% x", b)
				}
				came++
			}
			b = b[:len(b)-4] // another file, or none
			b[d.Below(len(b))] = byte(d.Below(256))
			b = summed(b)
		}
	}
	if came < 7000 {
		t.Error("hardly comes", came)
	}
}

func TestP16_7OneByte(t *testing.T) {
	refused := func(b []byte, at int, turn byte) {
		x := bytes.Clone(b)
		x[at] ^= turn
		if m, _, why := module.Decode(x); why == api.OK || show(m) != show(api.Module{}) {
			t.Fatalf("% x: %d, %d", b, at, turn)
		}
	}
	for _, m := range []api.Module{{Name: "m"}, shapes()} {
		b := file(t, m)
		for at := range b {
			for turn := 1; turn < 256; turn++ {
				refused(b, at, byte(turn))
			}
		}
	}
	d := dice(9)
	for range 3000 {
		b := file(t, some(&d))
		refused(b, d.Below(len(b)), byte(1+d.Below(255)))
	}
	b := file(t, greatest())
	for at := 0; at < len(b); at += 1 + d.Below(9) {
		refused(b, at, byte(1+d.Below(255)))
	}
}

// isNone tells whether bytes are no file.
func isNone(t *testing.T, b []byte) {
	t.Helper()
	if m, _, why := module.Decode(b); why == api.OK || show(m) != show(api.Module{}) {
		t.Fatalf("% x", b)
	}
}

func TestP16_8NoBeginning(t *testing.T) {
	d := dice(10)
	for range 1500 {
		b := file(t, some(&d))
		for n := range b {
			isNone(t, b[:n])
		}
		isNone(t, append(bytes.Clone(b), byte(d.Below(256))))
		isNone(t, append(bytes.Clone(b), someBytes(&d, 1+d.Below(20))...))
		isNone(t, append(bytes.Clone(b), b...))
		isNone(t, append(bytes.Clone(b), b[len(b)-4:]...))
		// What lies behind may have a sum of its own: of the file as it is, and of its body.
		isRefused(t, summed(b), len(b)-4, api.ErrMore)
		isRefused(t, summed(append(b[:len(b)-4:len(b)-4], 0)), len(b)-4, api.ErrMore)
	}
	b := file(t, shapes())
	for x := range 256 {
		isNone(t, append(bytes.Clone(b), byte(x)))
	}
}

// A beginning whose last four bytes are the sum of those ahead of them: it stands in the code.
func TestP16_8NoBeginningWithASumOfItsOwn(t *testing.T) {
	m := api.Module{Name: "m", Funcs: []api.Func{{Name: "f", Code: make([]byte, 12)}}}
	from := bytes.Index(file(t, m), make([]byte, 12))
	for at := range 9 {
		b := file(t, m)[:from+at]
		copy(m.Funcs[0].Code[at:], summed(b)[len(b):])
		whole := file(t, m)
		if !bytes.Equal(whole[:from+at+4], summed(whole[:from+at])) {
			t.Fatal("no such sum", at)
		}
		isRefused(t, whole[:from+at+4], from+at, api.ErrShort)
		if got, _, why := module.Decode(whole); why != api.OK || !module.Same(m, got) {
			t.Error(at, why)
		}
	}
}

func TestTheSameAgain(t *testing.T) {
	d := dice(11)
	for range 300 {
		m := some(&d)
		b := file(t, m)
		file(t, some(&d))
		if !bytes.Equal(file(t, m), b) || isRead(t, b) != api.OK {
			t.Fatal(show(m))
		}
	}
}

func TestNothingHandedInIsChanged(t *testing.T) {
	d := dice(12)
	for range 2000 {
		m := some(&d)
		if d.Below(2) == 0 {
			spoilt(&d, &m)
		}
		before := show(m)
		b, _ := module.Encode(m)
		module.Check(m)
		module.Entry(m, "f0")
		module.Same(m, m)
		x := append(bytes.Clone(b), 77)[:len(b)]
		module.Decode(x)
		if show(m) != before || !bytes.Equal(b, x) || x[:len(b)+1][len(b)] != 77 {
			t.Fatal(before)
		}
	}
}

func TestAnswersAreNewMemory(t *testing.T) {
	d := dice(13)
	for range 500 {
		m := some(&d)
		b := file(t, m)
		want := bytes.Clone(b)
		samples.Overwrite(file(t, m), 77)
		if !bytes.Equal(file(t, m), want) || !bytes.Equal(b, want) {
			t.Fatal("two files share memory, or one and the module")
		}
		one, _, _ := module.Decode(b)
		two, _, _ := module.Decode(b)
		// Each list is spoilt and then put right by another answer's: so what is still wrong has shared its memory.
		for i := range one.Classes {
			samples.Overwrite(one.Classes[i].Fields, api.Field{Name: "spoilt"})
			one.Classes[i].Fields = two.Classes[i].Fields
			if show(one) != show(m) {
				t.Fatal("shared within an answer")
			}
		}
		for i := range one.Funcs {
			samples.Overwrite(one.Funcs[i].Code, 77)
			samples.Overwrite(one.Funcs[i].Sig.Params, 77)
			one.Funcs[i].Code, one.Funcs[i].Sig.Params = two.Funcs[i].Code, two.Funcs[i].Sig.Params
			if show(one) != show(m) {
				t.Fatal("shared within an answer")
			}
		}
		for i := range one.Certs {
			samples.Overwrite(one.Certs[i], 77)
			one.Certs[i] = two.Certs[i]
			if show(one) != show(m) {
				t.Fatal("shared within an answer")
			}
		}
		samples.Overwrite(one.Classes, api.Class{Name: "spoilt"})
		samples.Overwrite(one.Funcs, api.Func{Name: "spoilt"})
		samples.Overwrite(one.Certs, []byte{77})
		if !bytes.Equal(b, want) || show(two) != show(m) {
			t.Fatal("shared")
		}
		samples.Overwrite(b, 77)
		if show(two) != show(m) {
			t.Fatal("what was handed in is kept")
		}
	}
}

func TestRoomBehindTheEndIsNotRead(t *testing.T) {
	m := shapes()
	want := file(t, m)
	m.Classes = append(m.Classes, api.Class{Name: "shape"})[:4]
	m.Classes[1].Fields = append(m.Classes[1].Fields, api.Field{})[:1]
	m.Funcs = append(m.Funcs, api.Func{Name: "f"})[:3]
	m.Funcs[1].Sig.Params = append(m.Funcs[1].Sig.Params, 99)[:2]
	m.Funcs[1].Code = append(m.Funcs[1].Code, 99)[:3]
	m.Certs = append(m.Certs, nil)[:3]
	m.Certs[1] = append(m.Certs[1], 99)[:2]
	if at, why := module.Check(m); at != 0 || why != api.OK || !bytes.Equal(file(t, m), want) || !module.Same(m, shapes()) {
		t.Error(at, why)
	}
	m.Funcs = append(m.Funcs, api.Func{Name: "more"})[:3]
	if _, is := module.Entry(m, "more"); is {
		t.Error("read")
	}
	if got, at, why := module.Decode(append(bytes.Clone(want), 0)[:len(want)]); at != 0 || why != api.OK || !module.Same(got, m) {
		t.Error(at, why)
	}
}

func TestAllEndsOfAllArguments(t *testing.T) {
	d := dice(14)
	for i := range 20000 {
		b := someBytes(&d, d.Below(40))
		copy(b, "pvm\x01"[:d.Below(5)])
		if i%2 == 0 {
			b = summed(b)
		}
		isRead(t, b)
	}
	for _, m := range []api.Module{
		{}, {Name: strings.Repeat("n", 1<<16)}, {Name: "m", Classes: make([]api.Class, 5000), Funcs: make([]api.Func, 5000), Certs: make([][]byte, 5000)},
		{Name: "m", Funcs: make([]api.Func, 64)}, {Name: "m", Classes: []api.Class{{Name: "c", Parent: -1, Fields: make([]api.Field, 5000)}}},
		{Name: "m", Funcs: []api.Func{{Name: "f", Sig: api.Sig{Params: make([]api.Type, 1<<16)}, Locals: -1 << 63, Code: make([]byte, 1<<20)}}},
	} {
		place, err := fault(m)
		isFault(t, m, place, err)
		if !module.Same(m, copied(m)) || slices.ContainsFunc([]string{"", "f"}, func(s string) bool { n, is := module.Entry(m, s); return n > 0 && !is }) {
			t.Error(show(m)[:100])
		}
	}
}
