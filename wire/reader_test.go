package wire_test

import (
	"math"
	"slices"
	"strings"
	"testing"

	"proviso/api"
	"proviso/wire"
)

// stands fails the test, if the reader is not behind at bytes with left ahead of it.
func stands(t *testing.T, r *wire.Reader, at, left int) {
	t.Helper()
	if r.At() != at || r.Left() != left {
		t.Fatalf("At %d, Left %d; want %d, %d", r.At(), r.Left(), at, left)
	}
}

func TestP1_1OverStandsAheadOfTheFirstByte(t *testing.T) {
	for _, b := range [][]byte{nil, {}, {7}, {0, 0, 0}, make([]byte, 1<<21)} {
		r := wire.Over(b)
		if r == nil {
			t.Fatal("no reader")
		}
		stands(t, r, 0, len(b))
	}
}

func TestP1_1AtAndLeftCountWhatWasRead(t *testing.T) {
	r := wire.Over([]byte{1, 0, 2, 0, 0, 0, 3, 1, 'a', 5, 5, 6})
	at := 0
	for i, read := range []struct {
		size int
		call func() api.Errno
	}{
		{1, func() api.Errno { _, e := r.Byte(); return e }},
		{2, func() api.Errno { _, e := r.Word(); return e }},
		{4, func() api.Errno { _, e := r.Long(); return e }},
		{2, func() api.Errno { _, e := r.Name(); return e }},
		{2, func() api.Errno { _, e := r.Take(2); return e }},
		{1, func() api.Errno { _, e := r.Within(1); return e }},
		{0, func() api.Errno { _, e := r.Take(0); return e }},
		{0, func() api.Errno { return r.End() }},
	} {
		if e := read.call(); e != api.OK {
			t.Fatal(i, e)
		}
		at += read.size
		stands(t, r, at, 12-at)
	}
}

func TestP1_1OverKeepsACopy(t *testing.T) {
	all := []byte{1, 2, 3, 4}
	r := wire.Over(all[:2])
	all[0], all[1], all[2] = 9, 9, 9
	if n, e := r.Word(); n != 0x0102 || e != api.OK {
		t.Fatal(n, e)
	}
	if e := r.End(); e != api.OK {
		t.Fatal("the room behind the list's end was read", e)
	}
}

func TestP1_1ReadingChangesNothingHandedIn(t *testing.T) {
	all := []byte{1, 'a', 3, 4, 5}
	r := wire.Over(all[:4])
	r.Name()
	r.Take(1)
	r.Byte()
	r.Byte()
	if !slices.Equal(all, []byte{1, 'a', 3, 4, 5}) {
		t.Fatal(all)
	}
}

func TestP1_2NumbersHighByteFirst(t *testing.T) {
	for _, x := range []struct {
		bytes            []byte
		first, two, four int
	}{
		{[]byte{0, 0, 0, 0}, 0, 0, 0},
		{[]byte{1, 2, 3, 4}, 1, 0x0102, 0x01020304},
		{[]byte{0, 0, 0, 1}, 0, 0, 1},
		{[]byte{0x7f, 0xff, 0xff, 0xff}, 127, 0x7fff, math.MaxInt32},
		{[]byte{0x80, 0, 0, 0}, 128, 0x8000, math.MinInt32},
		{[]byte{0xff, 0xff, 0xff, 0xff}, 255, 65535, -1},
		{[]byte{0xff, 0xff, 0xff, 0xfe}, 255, 65535, -2},
		{[]byte{0x80, 0, 0, 1}, 128, 0x8000, math.MinInt32 + 1},
	} {
		if n, e := wire.Over(x.bytes).Byte(); n != x.first || e != api.OK {
			t.Error("Byte", x.bytes, n, e)
		}
		if n, e := wire.Over(x.bytes).Word(); n != x.two || e != api.OK {
			t.Error("Word", x.bytes, n, e)
		}
		if n, e := wire.Over(x.bytes).Long(); n != x.four || e != api.OK {
			t.Error("Long", x.bytes, n, e)
		}
	}
}

func TestP1_2TooFewBytes(t *testing.T) {
	for left := range 5 {
		bytes := slices.Repeat([]byte{0xee}, left+1)
		for _, x := range []struct {
			name string
			size int
			call func(*wire.Reader) (int, api.Errno)
		}{{"Byte", 1, (*wire.Reader).Byte}, {"Word", 2, (*wire.Reader).Word}, {"Long", 4, (*wire.Reader).Long}} {
			r := wire.Over(bytes)
			r.Byte()
			n, e := x.call(r)
			if left < x.size {
				if n != 0 || e != api.ErrShort {
					t.Errorf("%s with %d left: %d, %v", x.name, left, n, e)
				}
				stands(t, r, 1, left)
			} else {
				if e != api.OK {
					t.Errorf("%s with %d left: %v", x.name, left, e)
				}
				stands(t, r, 1+x.size, left-x.size)
			}
		}
	}
}

func TestP1_3Take(t *testing.T) {
	bytes := []byte{1, 2, 3, 4}
	for _, x := range []struct {
		n    int
		want []byte
		e    api.Errno
	}{
		{0, nil, api.OK},
		{1, []byte{2}, api.OK},
		{3, []byte{2, 3, 4}, api.OK},
		{4, nil, api.ErrShort},
		{5, nil, api.ErrShort},
		{math.MaxInt, nil, api.ErrShort},
		{-1, nil, api.ErrArg},
		{math.MinInt, nil, api.ErrArg},
	} {
		r := wire.Over(bytes)
		r.Byte()
		got, e := r.Take(x.n)
		if !slices.Equal(got, x.want) || e != x.e {
			t.Error("Take", x.n, got, e)
		}
		stands(t, r, 1+len(x.want), 3-len(x.want))

		r = wire.Over(bytes)
		r.Byte()
		part, e := r.Within(x.n)
		if e != x.e || (part == nil) != (e != api.OK) {
			t.Error("Within", x.n, part, e)
		}
		stands(t, r, 1+len(x.want), 3-len(x.want))
		if part != nil {
			stands(t, part, 0, x.n)
			if inner, e := part.Take(x.n); !slices.Equal(inner, x.want) || e != api.OK || part.End() != api.OK {
				t.Error("Within", x.n, inner, e)
			}
		}
	}
}

func TestP1_3TakeFromNothing(t *testing.T) {
	r := wire.Over(nil)
	if b, e := r.Take(0); len(b) != 0 || e != api.OK {
		t.Error(b, e)
	}
	if b, e := r.Take(-1); len(b) != 0 || e != api.ErrArg {
		t.Error(b, e)
	}
	if b, e := r.Take(1); len(b) != 0 || e != api.ErrShort {
		t.Error(b, e)
	}
	part, e := r.Within(0)
	if part == nil || e != api.OK || part.End() != api.OK {
		t.Fatal("Within(0) is a reader without bytes", e)
	}
	if _, e := part.Byte(); e != api.ErrShort {
		t.Error(e)
	}
}

func TestP1_3TakeAnswersNewMemory(t *testing.T) {
	r := wire.Over([]byte{1, 2, 3, 4})
	got, _ := r.Take(2)
	_ = append(got, 9, 9)
	if room := got[:cap(got)]; len(room) > 0 {
		for i := range room {
			room[i] = 9
		}
	}
	if n, e := r.Word(); n != 0x0304 || e != api.OK {
		t.Fatal("what was taken shares room with the reader", n, e)
	}
}

func TestP1_3WithinIsApart(t *testing.T) {
	r := wire.Over([]byte{1, 2, 3, 4})
	part, _ := r.Within(2)
	if n, e := r.Byte(); n != 3 || e != api.OK {
		t.Fatal(n, e)
	}
	stands(t, part, 0, 2)
	if n, e := part.Word(); n != 0x0102 || e != api.OK {
		t.Fatal(n, e)
	}
	if _, e := part.Byte(); e != api.ErrShort {
		t.Fatal("a part reads of these bytes alone", e)
	}
	stands(t, r, 3, 1)
}

func TestP1_3Name(t *testing.T) {
	longest := strings.Repeat("n", api.MaxName)
	for _, x := range []struct {
		bytes string
		want  string
		e     api.Errno
	}{
		{"\x02ab", "ab", api.OK},
		{"\x01Z?", "Z", api.OK},
		{"\x04a_9Z", "a_9Z", api.OK},
		{"\x18" + longest, longest, api.OK},
		{"", "", api.ErrShort},
		{"\x00", "", api.ErrName},
		{"\x00a", "", api.ErrName},
		{"\x19" + longest + "n", "", api.ErrName},
		{"\x19", "", api.ErrName},
		{"\xff", "", api.ErrName},
		{"\x02a", "", api.ErrShort},
		{"\x01", "", api.ErrShort},
		{"\x18" + longest[1:], "", api.ErrShort},
		{"\x03?", "", api.ErrShort},
		{"\x011", "", api.ErrName},
		{"\x02_a", "", api.ErrName},
		{"\x03a-b", "", api.ErrName},
		{"\x02\xc3\xa9", "", api.ErrName},
	} {
		r := wire.Over([]byte("!" + x.bytes))
		r.Byte()
		s, e := r.Name()
		if s != x.want || e != x.e {
			t.Errorf("%q: %q, %v; want %q, %v", x.bytes, s, e, x.want, x.e)
		}
		read := 0
		if e == api.OK {
			read = 1 + len(x.want)
		}
		stands(t, r, 1+read, len(x.bytes)-read)
	}
}

func TestP1_3AReaderGoesOnBehindAnError(t *testing.T) {
	r := wire.Over([]byte{3, 'a', 'b'})
	if _, e := r.Long(); e != api.ErrShort {
		t.Fatal(e)
	}
	if _, e := r.Name(); e != api.ErrShort {
		t.Fatal(e)
	}
	if _, e := r.Within(4); e != api.ErrShort {
		t.Fatal(e)
	}
	if n, e := r.Byte(); n != 3 || e != api.OK {
		t.Fatal(n, e)
	}
	if b, e := r.Take(2); string(b) != "ab" || e != api.OK {
		t.Fatal(b, e)
	}
}

func TestP1_3End(t *testing.T) {
	r := wire.Over([]byte{1})
	if e := r.End(); e != api.ErrMore {
		t.Fatal(e)
	}
	stands(t, r, 0, 1)
	r.Byte()
	for range 2 {
		if e := r.End(); e != api.OK {
			t.Fatal(e)
		}
	}
	if e := wire.Over(nil).End(); e != api.OK {
		t.Fatal(e)
	}
}

func TestReadersThatNoCallMade(t *testing.T) {
	for _, r := range []*wire.Reader{nil, {}, new(wire.Reader)} {
		stands(t, r, 0, 0)
		if n, e := r.Byte(); n != 0 || e != api.ErrNil {
			t.Error("Byte", n, e)
		}
		if n, e := r.Word(); n != 0 || e != api.ErrNil {
			t.Error("Word", n, e)
		}
		if n, e := r.Long(); n != 0 || e != api.ErrNil {
			t.Error("Long", n, e)
		}
		if s, e := r.Name(); s != "" || e != api.ErrNil {
			t.Error("Name", s, e)
		}
		for _, n := range []int{-1, 0, 1} {
			if b, e := r.Take(n); len(b) != 0 || e != api.ErrNil {
				t.Error("Take", n, b, e)
			}
			if part, e := r.Within(n); part != nil || e != api.ErrNil {
				t.Error("Within", n, part, e)
			}
		}
		if e := r.End(); e != api.ErrNil {
			t.Error("End", e)
		}
		stands(t, r, 0, 0)
	}
}
