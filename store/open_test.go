package store_test

import (
	"bytes"
	"fmt"
	"maps"
	"slices"
	"strings"
	"testing"

	"proviso/api"
	"proviso/store"
)

// isTold holds Open of an image against the chapter's words; it tells whether the image can be.
func isTold(t *testing.T, b []byte) bool {
	t.Helper()
	stands, end, can := told(b)
	s, why := store.Open(b)
	if !can {
		if s != nil || why != api.ErrImage {
			t.Fatalf("% x: %v, %v", first(b), s, why)
		}
		return false
	}
	if s == nil || why != api.OK || !bytes.Equal(s.Image(), b[:end]) || !slices.Equal(s.Names(), slices.Sorted(maps.Keys(stands))) {
		t.Fatalf("% x: %v; % x, %v", first(b), why, first(s.Image()), s.Names())
	}
	for name, want := range stands {
		if got, why := s.Get(name); string(got) != want || why != api.OK {
			t.Fatalf("% x: %s: % x, %v", first(b), name, first(got), why)
		}
	}
	return true
}

func TestP21_1New(t *testing.T) {
	s := store.New()
	if s == nil || len(s.Image()) > 0 || len(s.Names()) > 0 {
		t.Fatal(s)
	}
	if b, why := s.Get("a"); len(b) > 0 || why != api.ErrKey {
		t.Error(b, why)
	}
	s.Put("a", nil)
	if len(store.New().Names()) > 0 {
		t.Error("two stores know of one another")
	}
}

func TestP21_1ImagesThatCanBe(t *testing.T) {
	a, b := kept("a", 7), kept("b", 8, 9)
	longest := strings.Repeat("n", 24)
	for _, x := range []struct {
		image []byte
		end   int
		what  string
	}{
		{nil, 0, ""},
		{[]byte{}, 0, ""},
		{[]byte{0}, 0, ""},
		{[]byte{0, 0xff, 3, 1, 2}, 0, ""},
		{image([]byte{0}, a), 0, ""},
		{a, 6, "a: 07 proviso: error 0; "},
		{image(a, []byte{0}), 6, "a: 07 proviso: error 0; "},
		{image(a, []byte{0, 0xff}), 6, "a: 07 proviso: error 0; "},
		{image(a, []byte{0}, b), 6, "a: 07 proviso: error 0; "},
		{image(b, a), 13, "a: 07 proviso: error 0; b: 0809 proviso: error 0; "},
		{image(a, b, kept("a", 1, 2, 3)), 21, "a: 010203 proviso: error 0; b: 0809 proviso: error 0; "},
		{image(a, kept("a")), 11, "a:  proviso: error 0; "},
		{image(a, dropped("a")), 9, ""},
		{image(a, dropped("a"), kept("a", 5)), 15, "a: 05 proviso: error 0; "},
		{image(a, b, dropped("a"), []byte{0}, dropped("b")), 16, "b: 0809 proviso: error 0; "},
		{image(kept(longest, 0, 0)), 30, longest + ": 0000 proviso: error 0; "},
		{image(kept("a", a...)), 11, fmt.Sprintf("a: %x proviso: error 0; ", a)},
		{image(kept("a", 0), b), 13, "a: 00 proviso: error 0; b: 0809 proviso: error 0; "}, // a byte 0 that is kept is no end
	} {
		s := opened(t, x.image)
		if what(s) != x.what || !bytes.Equal(s.Image(), x.image[:x.end]) {
			t.Errorf("% x: %s, % x", x.image, what(s), s.Image())
		}
		isTold(t, x.image)
	}
}

func TestP21_1ImagesThatCantBe(t *testing.T) {
	a := kept("a", 7)
	for _, b := range [][]byte{
		{3}, {255}, {'a'}, {1}, {2},
		image(a, []byte{3}), image(a, []byte{255, 0}), image(a, []byte{1}),
		{1, 0}, {1, 0, 0, 0}, {2, 0}, {2, 0, 0}, // no letter
		image(a, []byte{2, 0}),
		kept(strings.Repeat("n", 25), 7), image(kept("a"), dropped(strings.Repeat("n", 25))),
		kept("1", 7), kept("_a", 7), kept("a-b", 7), kept("a b", 7), kept("\x00", 7), kept("\xc3\xa9", 7), kept("a\x00", 7),
		image(a, dropped("1")), image(a, dropped("a.")),
		{1, 1, 'a'}, {1, 1, 'a', 0}, {1, 1, 'a', 0, 1}, {1, 1, 'a', 0, 2, 7}, {1, 1, 'a', 1, 0, 7}, {1, 2, 'a'}, {2, 2, 'a'},
		dropped("a"), image(dropped("a"), a), image(a, dropped("b")), image(a, dropped("a"), dropped("a")), image(a, dropped("a"), a, dropped("a"), dropped("a")),
		image(a, dropped("A")),
		kept("a", make([]byte, 4097)...), kept("a", make([]byte, 65535)...), image(kept("a", make([]byte, 4097)...), a),
	} {
		if s, why := store.Open(b); s != nil || why != api.ErrImage {
			t.Errorf("% x: %v, %v", first(b), s, why)
		}
		isTold(t, b)
	}
}

func TestP21_1MostBytesUnderAName(t *testing.T) {
	for _, n := range []int{0, 1, 255, 256, 257, 4095, 4096, 4097, 4098, 8192, 65535} {
		for _, behind := range [][]byte{nil, {0}, kept("b", 1), {0, 0}} {
			if isTold(t, image(kept("a", bytes.Repeat([]byte{9}, n)...), behind)) != (n <= 4096) {
				t.Error(n)
			}
		}
	}
}

func TestP21_1MostNames(t *testing.T) {
	var all []byte
	for i := range 16 {
		all = append(all, kept(key(15-i), byte(i))...)
	}
	s := opened(t, all)
	if l := s.Names(); len(l) != 16 || l[0] != key(0) || l[15] != key(15) {
		t.Error(l)
	}
	more := kept("z", 1)
	for _, x := range []struct {
		image []byte
		can   bool
	}{
		{image(all, more), false},
		{image(all, more, dropped("z")), false}, // at one place there are too many, though not at last
		{image(all, more, dropped(key(3))), false},
		{image(all, dropped(key(3)), more), true},
		{image(all, kept(key(3), 5)), true},
		{image(all, dropped(key(3)), more, kept(key(3))), false},
		{image(all, []byte{0}, more), true},
		{image(all, dropped(key(0)), dropped(key(15)), more, kept("y"), kept("y"), kept("z")), true},
	} {
		if isTold(t, x.image) != x.can {
			t.Errorf("% x", x.image)
		}
	}
}

func TestP21_1MostBytes(t *testing.T) {
	end := func(n int) []byte { return append(kept("a", 7), make([]byte, n-6)...) }
	for _, x := range []struct {
		image []byte
		can   bool
	}{
		{long(1<<20 - 1), true}, {long(1 << 20), true}, {long(1<<20 + 1), false}, {long(1 << 21), false},
		{append(long(1<<20-1), 0), true}, {append(long(1<<20), 0), false}, {append(long(1<<20-1), 0, 0), false},
		{append(long(1<<20-1), 1), false},
		{end(1 << 20), true}, {end(1<<20 + 1), false}, // what stands behind the end counts
		{make([]byte, 1<<20), true}, {make([]byte, 1<<20+1), false},
		{bytes.Repeat([]byte{0, 255}, 1<<19), true},
	} {
		if isTold(t, x.image) != x.can {
			t.Errorf("%d: % x", len(x.image), first(x.image))
		}
	}
	if n := len(long(1 << 20)); n != 1<<20 {
		t.Error(n)
	}
}

func TestP21_1ManyRecords(t *testing.T) {
	pair := image(kept("a"), dropped("a"))
	if !isTold(t, bytes.Repeat(pair, 1<<20/len(pair))) || !isTold(t, bytes.Repeat(kept("b"), 1<<20/5)) {
		t.Error("refused")
	}
}

func TestP21_1WhatABeginningIs(t *testing.T) {
	records := [][]byte{kept("ab", 7, 0, 8), kept("c"), dropped("ab"), kept("ab", 1), kept("d", kept("e", 9)...), dropped("c")}
	whole := image(records...)
	ends := map[int]bool{0: true}
	n := 0
	for _, r := range records {
		n += len(r)
		ends[n] = true
	}
	for n := range len(whole) + 1 {
		if isTold(t, whole[:n]) != ends[n] {
			t.Error(n)
		}
		if !isTold(t, image(whole[:n], []byte{0}, whole)) && ends[n] {
			t.Error("with an end", n)
		}
	}
}

func TestP21_1AllShortImages(t *testing.T) {
	can := 0
	var all func(b []byte, left int)
	all = func(b []byte, left int) {
		if isTold(t, b) {
			can++
		}
		if left == 0 {
			return
		}
		for _, x := range []byte{0, 1, 2, 3, 'a'} {
			all(append(b[:len(b):len(b)], x), left-1)
		}
	}
	all(nil, 7)
	if can < 15000 {
		t.Error("hardly any can be", can)
	}
}

func TestP21_1TurnedImages(t *testing.T) {
	d, can, cant := dice(1), 0, 0
	for range 30000 {
		b := someImage(&d, 1+d.Below(30))
		for range d.Below(3) {
			if len(b) > 0 {
				b[d.Below(len(b))] = byte(pick(&d, []int{0, 1, 2, 3, 'a', 'b', d.Below(256)}))
			}
		}
		if d.Below(4) == 0 {
			b = b[:d.Below(len(b)+1)]
		}
		if d.Below(4) == 0 {
			b = append(b, 0, byte(d.Below(256)), 1)
		}
		if isTold(t, b) {
			can++
		} else {
			cant++
		}
	}
	if can < 9000 || cant < 9000 {
		t.Error("one hardly comes", can, cant)
	}
}

// someImage is n records of few names; now and then one that can't stand there.
func someImage(d *dice, n int) []byte {
	var b []byte
	names := []string{"a", "b", "ab", "k"}
	for i := range 15 {
		names = append(names, key(i))
	}
	names = names[:1+d.Below(len(names))]
	stands := map[string]bool{}
	for range n {
		name := pick(d, names)
		if d.Below(3) == 0 && (stands[name] || d.Below(20) == 0) {
			b = append(b, dropped(name)...)
			delete(stands, name)
			continue
		}
		bytes := make([]byte, d.Below(4))
		for i := range bytes {
			bytes[i] = byte(d.Below(4))
		}
		b = append(b, kept(name, bytes...)...)
		stands[name] = true
	}
	return b
}

func TestP21_1NamesRise(t *testing.T) {
	want := []string{"A", "A0", "AZ", "A_", "Aa", "Z", "a", "a0", "a00", "a9", "aA", "a_", "a_b", "aa", "ab", "z"}
	s := store.New()
	for i := range want {
		s.Put(want[i*7%16], []byte{byte(i)})
	}
	if l := s.Names(); !slices.Equal(l, want) {
		t.Error(l)
	}
	if l := opened(t, s.Image()).Names(); !slices.Equal(l, want) {
		t.Error(l)
	}
	s.Drop("a0")
	if l := s.Names(); !slices.Equal(l, slices.Delete(slices.Clone(want), 7, 8)) {
		t.Error(l)
	}
}

// noNames are texts that are none.
func noNames() []string {
	return []string{"", "1", "_", "_a", "a-b", "a ", " a", "a.", "a\x00", "\x00", "é", "a\xff", strings.Repeat("n", 25), strings.Repeat("n", 1<<16), "9a"}
}

func TestP21_1Get(t *testing.T) {
	s := opened(t, image(kept("a", 7), kept("b"), kept(strings.Repeat("n", 24), 1, 2), kept("c", 3), dropped("c")))
	for _, x := range []struct {
		name string
		want []byte
		why  api.Errno
	}{
		{"a", []byte{7}, api.OK}, {"b", nil, api.OK}, {strings.Repeat("n", 24), []byte{1, 2}, api.OK},
		{"c", nil, api.ErrKey}, {"d", nil, api.ErrKey}, {"A", nil, api.ErrKey}, {"ab", nil, api.ErrKey}, {strings.Repeat("n", 23), nil, api.ErrKey},
	} {
		if b, why := s.Get(x.name); !bytes.Equal(b, x.want) || why != x.why {
			t.Error(x.name, b, why)
		}
	}
	for _, name := range noNames() {
		if b, why := s.Get(name); len(b) > 0 || why != api.ErrName {
			t.Errorf("%.30q: % x, %v", name, b, why)
		}
	}
}

func TestP21_1Pack(t *testing.T) {
	for i, x := range []struct{ from, want []byte }{
		{nil, nil},
		{kept("a", 7), kept("a", 7)},
		{image(kept("b", 1), kept("a", 7)), image(kept("a", 7), kept("b", 1))},
		{image(kept("b", 1), kept("a", 7), kept("b")), image(kept("a", 7), kept("b"))},
		{image(kept("b", 1), dropped("b")), nil},
		{image(kept("b", 1), dropped("b"), kept("c", 3), kept("B", 9), []byte{0}, kept("a")), image(kept("B", 9), kept("c", 3))},
	} {
		s := opened(t, x.from)
		was := state(s)
		p := s.Pack()
		if p == nil || p == s || !bytes.Equal(p.Image(), x.want) || what(p) != what(s) {
			t.Fatal(i, p)
		}
		if again := p.Pack(); state(again) != state(p) {
			t.Error(i, state(again))
		}
		p.Put("new", []byte{1})
		p.Drop("a")
		if state(s) != was {
			t.Error("the one that was packed has changed", state(s))
		}
		p, q := s.Pack(), what(s)
		s.Put("new", []byte{2})
		s.Drop("a")
		if what(p) != q {
			t.Error("the packed one has changed")
		}
	}
	var nothing *store.Store
	if nothing.Pack() != nil || new(store.Store).Pack() != nil {
		t.Error("a store of none")
	}
}

func TestP21_1PackTheGreatest(t *testing.T) {
	s := store.New()
	for range 3 {
		for i := range 16 {
			if _, why := s.Put(strings.Repeat("n", 21)+key(i), bytes.Repeat([]byte{byte(i)}, 4096)); why != api.OK {
				t.Fatal(why)
			}
		}
	}
	p := s.Pack()
	if len(p.Image()) != 16*(2+24+2+4096) || what(p) != what(s) {
		t.Error(len(p.Image()))
	}
}
