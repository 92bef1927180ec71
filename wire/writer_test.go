package wire_test

import (
	"bytes"
	"math"
	"strings"
	"testing"

	"proviso/api"
	"proviso/wire"
)

func TestP1_4NumbersInTheirBounds(t *testing.T) {
	type put = func(*wire.Writer, int) api.Errno
	for _, x := range []struct {
		name string
		call put
		n    int
		want string
		e    api.Errno
	}{
		{"Byte", (*wire.Writer).Byte, 0, "\x00", api.OK},
		{"Byte", (*wire.Writer).Byte, 255, "\xff", api.OK},
		{"Byte", (*wire.Writer).Byte, 256, "", api.ErrRange},
		{"Byte", (*wire.Writer).Byte, -1, "", api.ErrRange},
		{"Byte", (*wire.Writer).Byte, math.MaxInt, "", api.ErrRange},
		{"Byte", (*wire.Writer).Byte, math.MinInt, "", api.ErrRange},
		{"Word", (*wire.Writer).Word, 0, "\x00\x00", api.OK},
		{"Word", (*wire.Writer).Word, 258, "\x01\x02", api.OK},
		{"Word", (*wire.Writer).Word, 65535, "\xff\xff", api.OK},
		{"Word", (*wire.Writer).Word, 65536, "", api.ErrRange},
		{"Word", (*wire.Writer).Word, -1, "", api.ErrRange},
		{"Word", (*wire.Writer).Word, math.MaxInt, "", api.ErrRange},
		{"Word", (*wire.Writer).Word, math.MinInt, "", api.ErrRange},
		{"Long", (*wire.Writer).Long, 0, "\x00\x00\x00\x00", api.OK},
		{"Long", (*wire.Writer).Long, 0x01020304, "\x01\x02\x03\x04", api.OK},
		{"Long", (*wire.Writer).Long, -1, "\xff\xff\xff\xff", api.OK},
		{"Long", (*wire.Writer).Long, math.MaxInt32, "\x7f\xff\xff\xff", api.OK},
		{"Long", (*wire.Writer).Long, math.MinInt32, "\x80\x00\x00\x00", api.OK},
		{"Long", (*wire.Writer).Long, math.MaxInt32 + 1, "", api.ErrRange},
		{"Long", (*wire.Writer).Long, math.MinInt32 - 1, "", api.ErrRange},
		{"Long", (*wire.Writer).Long, math.MaxInt, "", api.ErrRange},
		{"Long", (*wire.Writer).Long, math.MinInt, "", api.ErrRange},
	} {
		w := wire.New()
		w.Byte('!')
		if e := x.call(w, x.n); e != x.e {
			t.Error(x.name, x.n, e)
		}
		if got := string(w.Bytes()); got != "!"+x.want || w.Len() != 1+len(x.want) {
			t.Errorf("%s(%d): % x", x.name, x.n, got)
		}
	}
}

func TestP1_4NewHasNothing(t *testing.T) {
	w := wire.New()
	if w == nil || w.Len() != 0 || len(w.Bytes()) != 0 {
		t.Fatal("bytes in a new writer")
	}
	for _, b := range [][]byte{nil, {}} {
		if e := w.Put(b); e != api.OK || w.Len() != 0 {
			t.Fatal(e, w.Len())
		}
	}
}

func TestP1_4PutAndName(t *testing.T) {
	longest := strings.Repeat("n", api.MaxName)
	w := wire.New()
	if e := w.Put([]byte{1, 2}); e != api.OK {
		t.Fatal(e)
	}
	if e := w.Put([]byte{3}); e != api.OK {
		t.Fatal(e)
	}
	for _, s := range []string{"x", "a_9Z", longest} {
		if e := w.Name(s); e != api.OK {
			t.Fatal(s, e)
		}
	}
	want := "\x01\x02\x03\x01x\x04a_9Z\x18" + longest
	for _, s := range []string{"", "1", "_a", "a b", longest + "n", "\xc3\xa9"} {
		if e := w.Name(s); e != api.ErrName {
			t.Errorf("%q: %v", s, e)
		}
	}
	if got := string(w.Bytes()); got != want || w.Len() != len(want) {
		t.Fatalf("%q", got)
	}
}

// filled is a writer with so many bytes, all 'f'.
func filled(t *testing.T, n int) *wire.Writer {
	t.Helper()
	w := wire.New()
	if e := w.Put(bytes.Repeat([]byte{'f'}, n)); e != api.OK {
		t.Fatal(n, e)
	}
	return w
}

func TestP1_4FullAtMaxBytes(t *testing.T) {
	for _, x := range []struct {
		name string
		size int
		call func(*wire.Writer) api.Errno
	}{
		{"Byte", 1, func(w *wire.Writer) api.Errno { return w.Byte(1) }},
		{"Word", 2, func(w *wire.Writer) api.Errno { return w.Word(1) }},
		{"Long", 4, func(w *wire.Writer) api.Errno { return w.Long(1) }},
		{"Put", 3, func(w *wire.Writer) api.Errno { return w.Put([]byte{1, 2, 3}) }},
		{"Name", 3, func(w *wire.Writer) api.Errno { return w.Name("ab") }},
	} {
		w := filled(t, api.MaxBytes-x.size)
		if e := x.call(w); e != api.OK || w.Len() != api.MaxBytes {
			t.Error(x.name, "up to the limit itself", e, w.Len())
		}
		for size := range x.size {
			w := filled(t, api.MaxBytes-size)
			if e := x.call(w); e != api.ErrFull || w.Len() != api.MaxBytes-size {
				t.Error(x.name, "with room for", size, e, w.Len())
			}
			if got := w.Bytes(); len(got) != api.MaxBytes-size || got[len(got)-1] != 'f' {
				t.Error(x.name, "left something behind an error")
			}
		}
	}
}

func TestP1_4FullIsAskedLast(t *testing.T) {
	w := filled(t, api.MaxBytes)
	if e := w.Byte(256); e != api.ErrRange {
		t.Error("Byte", e)
	}
	if e := w.Word(-1); e != api.ErrRange {
		t.Error("Word", e)
	}
	if e := w.Long(math.MaxInt); e != api.ErrRange {
		t.Error("Long", e)
	}
	if e := w.Name("1"); e != api.ErrName {
		t.Error("Name", e)
	}
	if e := w.Put(nil); e != api.OK {
		t.Error("Put of nothing", e)
	}
	if e := w.Put(make([]byte, api.MaxBytes)); e != api.ErrFull {
		t.Error("Put", e)
	}
	if e := wire.New().Put(make([]byte, api.MaxBytes+1)); e != api.ErrFull {
		t.Error("Put at once", e)
	}
	if e := w.Patch(api.MaxBytes-2, 0x0102); e != api.OK || !bytes.HasSuffix(w.Bytes(), []byte{'f', 1, 2}) {
		t.Error("Patch", e)
	}
}

func TestP1_4Patch(t *testing.T) {
	for _, x := range []struct {
		at, n int
		want  string
		e     api.Errno
	}{
		{0, 7, "\x00\x07cd", api.OK},
		{1, 0x0102, "a\x01\x02d", api.OK},
		{2, 65535, "ab\xff\xff", api.OK},
		{2, 0, "ab\x00\x00", api.OK},
		{3, 0, "abcd", api.ErrArg},
		{4, 0, "abcd", api.ErrArg},
		{5, 0, "abcd", api.ErrArg},
		{-1, 0, "abcd", api.ErrArg},
		{math.MinInt, 0, "abcd", api.ErrArg},
		{math.MaxInt, 0, "abcd", api.ErrArg},
		{math.MaxInt - 1, 0, "abcd", api.ErrArg},
		{0, 65536, "abcd", api.ErrRange},
		{0, -1, "abcd", api.ErrRange},
		{0, math.MaxInt, "abcd", api.ErrRange},
		{0, math.MinInt, "abcd", api.ErrRange},
		{-1, -1, "abcd", api.ErrRange},
		{3, 65536, "abcd", api.ErrRange},
	} {
		w := wire.New()
		w.Put([]byte("abcd"))
		if e := w.Patch(x.at, x.n); e != x.e {
			t.Error("Patch", x.at, x.n, e)
		}
		if got := string(w.Bytes()); got != x.want || w.Len() != 4 {
			t.Errorf("Patch(%d, %d): %q", x.at, x.n, got)
		}
	}
	for size := range 2 {
		if e := filled(t, size).Patch(0, 0); e != api.ErrArg {
			t.Error("Patch of", size, e)
		}
	}
}

func TestP1_4BytesIsACopyAndTheWriterGoesOn(t *testing.T) {
	w := wire.New()
	w.Put([]byte("abc"))
	one, two := w.Bytes(), w.Bytes()
	for i := range one[:cap(one)] {
		one[:cap(one)][i] = '?'
	}
	if string(two) != "abc" || string(w.Bytes()) != "abc" {
		t.Fatal("two answers share memory, or one and the writer", two)
	}
	w.Byte('d')
	w.Patch(0, 0x7879)
	if string(two) != "abc" {
		t.Fatal("an answer changed later on", two)
	}
	two = append(two, '!')
	if string(w.Bytes()) != "xycd" || w.Len() != 4 {
		t.Fatal(w.Bytes())
	}
	if e := w.Byte('e'); e != api.OK || string(two) != "abc!" || string(w.Bytes()) != "xycde" {
		t.Fatal(e, two, w.Bytes())
	}
}

func TestP1_4PutKeepsACopy(t *testing.T) {
	all := []byte("abcd")
	w := wire.New()
	w.Put(all[:2])
	all[0] = '?'
	w.Put([]byte("yz"))
	w.Patch(0, 0)
	if string(all) != "?bcd" {
		t.Fatal("what was handed in was changed", all)
	}
	if string(w.Bytes()) != "\x00\x00yz" {
		t.Fatal(w.Bytes())
	}
	w = wire.New()
	w.Put(all)
	all[1] = '?'
	if string(w.Bytes()) != "?bcd" {
		t.Fatal("what was handed in is kept", w.Bytes())
	}
}

func TestWritersThatNoCallMade(t *testing.T) {
	for _, w := range []*wire.Writer{nil, {}, new(wire.Writer)} {
		for name, e := range map[string]api.Errno{
			"Byte": w.Byte(1), "Word": w.Word(1), "Long": w.Long(1), "Put": w.Put([]byte{1}), "Name": w.Name("a"), "Patch": w.Patch(0, 1),
			"Byte past": w.Byte(256), "Word past": w.Word(-1), "Long past": w.Long(math.MaxInt), "Put nothing": w.Put(nil),
			"Put much": w.Put(make([]byte, api.MaxBytes+1)), "no Name": w.Name(""), "Patch no word": w.Patch(0, -1),
		} {
			if e != api.ErrNil {
				t.Error(name, e)
			}
		}
		if w.Len() != 0 || len(w.Bytes()) != 0 {
			t.Error("Len, Bytes", w.Len(), w.Bytes())
		}
	}
}

func TestTwoObjectsKnowNothingOfOneAnother(t *testing.T) {
	one, two := wire.New(), wire.New()
	one.Byte(1)
	two.Byte(2)
	one.Byte(3)
	if string(one.Bytes()) != "\x01\x03" || string(two.Bytes()) != "\x02" {
		t.Fatal(one.Bytes(), two.Bytes())
	}
	b := []byte{1, 2}
	first, second := wire.Over(b), wire.Over(b)
	first.Byte()
	stands(t, second, 0, 2)
}
