package wire_test

import (
	"bytes"
	"math"
	"slices"
	"strings"
	"testing"

	"proviso/api"
	"proviso/wire"
)

// dice throws the same numbers at every run.
type dice uint64

func (d *dice) below(n int) int {
	*d = *d*6364136223846793005 + 1442695040888963407
	return int(uint64(*d) >> 33 % uint64(n))
}

func TestP1_5IsName(t *testing.T) {
	const letters = "abcdefghijklmnopqrstuvwxyzABCDEFGHIJKLMNOPQRSTUVWXYZ"
	for c := range 256 {
		s := string([]byte{byte(c)})
		first := strings.Contains(letters, s)
		if wire.IsName(s) != first {
			t.Errorf("%q", s)
		}
		later := first || strings.Contains("0123456789_", s)
		for _, name := range []string{"a" + s, "Z" + s + "a", strings.Repeat("q", api.MaxName-1) + s} {
			if wire.IsName(name) != later {
				t.Errorf("%q", name)
			}
		}
	}
	for n := range 2 * api.MaxName {
		if wire.IsName(strings.Repeat("a", n)) != (n >= 1 && n <= api.MaxName) {
			t.Error(n, "letters")
		}
	}
	for _, s := range []string{"", "9a", "_", "a b", "a\x00", "caf\u00e9", "\u00e9", strings.Repeat("a", 1<<20)} {
		if wire.IsName(s) {
			t.Errorf("%.30q", s)
		}
	}
}

// sumByRule is the check sum as the document words it.
func sumByRule(b []byte) int {
	c := 1<<32 - 1
	for _, x := range b {
		c ^= int(x)
		for range 8 {
			odd := c%2 == 1
			c /= 2
			if odd {
				c ^= 0xedb88320
			}
		}
	}
	return c ^ (1<<32 - 1)
}

func TestP1_5Sum(t *testing.T) {
	for _, x := range []struct {
		text string
		want int
	}{{"", 0}, {"123456789", 0xcbf43926}, {"a", 0xe8b7be43}, {"\x00", 0xd202ef8d}, {"\xff\xff\xff\xff", 0xffffffff}} {
		if n := wire.Sum([]byte(x.text)); n != x.want {
			t.Errorf("%q: %x", x.text, n)
		}
	}
	if wire.Sum(nil) != 0 {
		t.Error("of nil")
	}
	for c := range 256 {
		for _, b := range [][]byte{{byte(c)}, {byte(c), 0}, {7, byte(c), byte(c)}} {
			if n := wire.Sum(b); n != sumByRule(b) {
				t.Errorf("% x: %x", b, n)
			}
		}
	}
	d := dice(5)
	for n := range 300 {
		b := make([]byte, n)
		for i := range b {
			b[i] = byte(d.below(256))
		}
		kept := slices.Clone(b)
		if got := wire.Sum(b); got != sumByRule(b) || got < 0 || got >= 1<<32 || !bytes.Equal(b, kept) {
			t.Errorf("%d bytes: %x", n, got)
		}
	}
}

// what is one thing that a writer was told, and that a reader must tell.
type what struct {
	kind, n int
	s       string
}

// throw is a thing of any kind, often at the edges of its bounds.
func throw(d *dice) what {
	edge := func(l ...int) int { return l[d.below(len(l))] }
	switch d.below(5) {
	case 0:
		return what{kind: 0, n: edge(0, 1, 127, 128, 255, d.below(256))}
	case 1:
		return what{kind: 1, n: edge(0, 1, 255, 256, 32768, 65535, d.below(65536))}
	case 2:
		return what{kind: 2, n: edge(0, -1, 1, math.MinInt32, math.MaxInt32, -65536, d.below(1<<31)-d.below(1<<31))}
	case 3:
		return what{kind: 3, s: strings.Repeat("\x00\xff?", d.below(5))}
	}
	return what{kind: 4, s: strings.Repeat("Az_9", 6)[:1+d.below(api.MaxName)]}
}

func tell(w *wire.Writer, x what) api.Errno {
	switch x.kind {
	case 0:
		return w.Byte(x.n)
	case 1:
		return w.Word(x.n)
	case 2:
		return w.Long(x.n)
	case 3:
		return w.Put([]byte(x.s))
	}
	return w.Name(x.s)
}

func hear(r *wire.Reader, x what) (what, api.Errno) {
	got := what{kind: x.kind}
	var e api.Errno
	switch x.kind {
	case 0:
		got.n, e = r.Byte()
	case 1:
		got.n, e = r.Word()
	case 2:
		got.n, e = r.Long()
	case 3:
		var b []byte
		b, e = r.Take(len(x.s))
		got.s = string(b)
	default:
		got.s, e = r.Name()
	}
	return got, e
}

func TestP1_6ThereAndBack(t *testing.T) {
	d := dice(16)
	for range 200 {
		w := wire.New()
		var told []what
		for range d.below(40) {
			x := throw(&d)
			if e := tell(w, x); e != api.OK {
				t.Fatal(x, e)
			}
			told = append(told, x)
			if w.Byte(256) != api.ErrRange || w.Name("") != api.ErrName {
				t.Fatal("told without OK")
			}
		}
		r := wire.Over(w.Bytes())
		for _, x := range told {
			if got, e := hear(r, x); got != x || e != api.OK {
				t.Fatal(x, got, e)
			}
		}
		if e := r.End(); e != api.OK {
			t.Fatal(e)
		}
	}
}

func TestP1_7PartsAreReadOneBehindAnother(t *testing.T) {
	d := dice(17)
	for range 200 {
		all := make([]byte, d.below(60))
		for i := range all {
			all[i] = byte(d.below(256))
		}
		r := wire.Over(all)
		var read []byte
		for r.Left() > 0 {
			n := d.below(r.Left() + 1)
			if d.below(2) == 0 {
				b, _ := r.Take(n)
				read = append(read, b...)
				continue
			}
			part, e := r.Within(n)
			if e != api.OK {
				t.Fatal(n, e)
			}
			for part.Left() > 0 {
				inner, _ := part.Within(1 + d.below(part.Left()))
				b, _ := inner.Take(inner.Left())
				read = append(read, b...)
			}
		}
		if !bytes.Equal(read, all) {
			t.Fatalf("% x read as % x", all, read)
		}
	}
}

func TestP1_7AtAndLeftAreAllTogether(t *testing.T) {
	d := dice(71)
	for range 200 {
		all := make([]byte, d.below(30))
		for i := range all {
			all[i] = byte(d.below(4))
		}
		r := wire.Over(all)
		for range 30 {
			x := throw(&d)
			at := r.At()
			if _, e := hear(r, x); e != api.OK && r.At() != at {
				t.Fatal("an error moved the reader", x, e)
			}
			r.Take(d.below(3) - 1)
			r.Within(d.below(3) - 1)
			if r.At()+r.Left() != len(all) || r.At() < at {
				t.Fatal(r.At(), r.Left(), len(all))
			}
		}
	}
}

func TestExamplesOfChapter1(t *testing.T) {
	r := wire.Over([]byte{1, 2, 0xff, 0xff, 0xff, 0xfe})
	if n, e := r.Word(); n != 258 || e != api.OK {
		t.Error(n, e)
	}
	if n, e := r.Long(); n != -2 || e != api.OK || r.End() != api.OK {
		t.Error(n, e)
	}
	if n, e := r.Byte(); n != 0 || e != api.ErrShort {
		t.Error(n, e)
	}
	w := wire.New()
	if w.Word(258) != api.OK || w.Long(-1) != api.OK || w.Name("x") != api.OK || !bytes.Equal(w.Bytes(), []byte{1, 2, 0xff, 0xff, 0xff, 0xff, 1, 0x78}) {
		t.Error(w.Bytes())
	}
	if w.Patch(0, 7) != api.OK || w.Patch(7, 1) != api.ErrArg || w.Byte(256) != api.ErrRange || !bytes.HasPrefix(w.Bytes(), []byte{0, 7, 0xff}) {
		t.Error(w.Bytes())
	}
}
