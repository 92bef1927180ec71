package store_test

import (
	"bytes"
	"fmt"
	"slices"
	"testing"

	"proviso/api"
	"proviso/store"
)

// turn is a Put, or, without bytes of its own, a Drop.
type turn struct {
	name string
	b    []byte
	put  bool
}

func (x turn) on(s *store.Store) ([]api.Write, api.Errno) {
	if x.put {
		return s.Put(x.name, x.b)
	}
	return s.Drop(x.name)
}

// turns have bytes that look like records, so that what lies behind an end would be taken for some, were it not the end.
func turns() []turn {
	return []turn{
		{"a", []byte{7}, true},
		{"a", nil, true},
		{"b", kept("c", 1), true},
		{"a", image(kept("d", 9), kept("e"), []byte{3}), true},
		{"a", nil, false},
		{"b", nil, false},
	}
}

// isTorn lays the writes of a turn on what is there, cut at each byte: each time a store must have what it had; and the turn's, if none was cut. It hands on what lies there then.
func isTorn(t *testing.T, there []byte, x turn, behind func(b []byte)) {
	t.Helper()
	had := opened(t, there)
	s := opened(t, there)
	l, why := x.on(s)
	if why != api.OK {
		if state(s) != state(had) || len(l) > 0 {
			t.Fatalf("refused: %v, and another one", why)
		}
		return
	}
	n := total(l)
	for cut := range n + 1 {
		b := laid(t, there, l, cut)
		got, want := opened(t, b), had
		if cut == n {
			want = s
		}
		if state(got) != state(want) {
			t.Fatalf("% x, %s cut at %d: %s, wanted %s", there, x.name, cut, state(got), state(want))
		}
		behind(b)
	}
}

func TestP21_4ATornWrite(t *testing.T) {
	seen := map[string]bool{}
	var deep func(b []byte, left int)
	deep = func(b []byte, left int) {
		key := fmt.Sprintf("%x %d", b, left)
		if left == 0 || seen[key] {
			return
		}
		seen[key] = true
		for _, x := range turns() {
			isTorn(t, b, x, func(b []byte) { deep(b, left-1) })
		}
	}
	deep(nil, 4)
	deep([]byte{0}, 2)
	deep(image(kept("a", 1, 1), kept("b"), []byte{0}, kept("c", 2), kept("a", 3), []byte{0, 1, 2, 255}), 2)
	if len(seen) < 3000 {
		t.Error("hardly tried", len(seen))
	}
}

// A record that becomes shorter than what lies behind the end: only the byte 0 that is laid behind it tells that away.
func TestP21_4WhatLiesBehind(t *testing.T) {
	ahead := kept("a", 7)
	for n := range 40 {
		junk := image([]byte{0}, bytes.Repeat([]byte{1}, n))
		for _, x := range turns() {
			isTorn(t, image(ahead, junk), x, func([]byte) {})
		}
		isTorn(t, image(ahead, []byte{0}, bytes.Repeat(kept("z", 1), n)[:n]), turn{"b", nil, true}, func([]byte) {})
	}
	// It is there even where its place had a byte of a record to come.
	s := opened(t, image(ahead, []byte{0, 1, 'a', 1, 1, 'z', 0, 0}))
	l, _ := s.Drop("a")
	b := laid(t, image(ahead, []byte{0, 1, 'a', 1, 1, 'z', 0, 0}), l, total(l))
	if got := opened(t, b); len(got.Names()) > 0 || len(got.Image()) != 9 {
		t.Error(state(got))
	}
}

func TestP21_4LongTornLives(t *testing.T) {
	d, cuts := dice(2), 0
	for range 300 {
		var there []byte
		m := newModel()
		for range 40 {
			s := opened(t, there)
			if what(s) != whatOf(m) || !bytes.Equal(s.Image(), m.image) {
				t.Fatal(state(s), whatOf(m))
			}
			x := turn{key(d.Below(18)), someBytes(&d), d.Below(3) > 0}
			l, why := x.on(s)
			if why != api.OK {
				continue
			}
			cut := d.Below(total(l) + 4)
			if cut >= total(l) {
				cut = total(l)
				m.turn(x)
			} else {
				cuts++
			}
			there = laid(t, there, l, cut)
		}
	}
	if cuts < 3000 {
		t.Error("hardly cut", cuts)
	}
}

func TestP21_4AtTheLastByte(t *testing.T) {
	for _, x := range []turn{{"b", []byte{1, 2, 3}, true}, {"a", nil, false}} {
		n := 3
		if x.put {
			n = 8
		}
		ahead := long(1<<20 - n - 1)
		for _, there := range [][]byte{ahead, append(bytes.Clone(ahead), 0), append(append(bytes.Clone(ahead), 0), bytes.Repeat([]byte{1}, n)...)} {
			isTorn(t, there, x, func([]byte) {})
		}
	}
}

// someBytes are such as a record may keep, few of them for the most part.
func someBytes(d *dice) []byte {
	n := d.Below(6)
	switch d.Below(60) {
	case 0:
		n = 250 + d.Below(12)
	case 1:
		n = 4090 + d.Below(9)
	}
	b := make([]byte, n)
	for i := range b {
		b[i] = byte(d.Below(4))
	}
	return b
}

func (m *model) turn(x turn) ([]byte, api.Errno) {
	if x.put {
		return m.put(x.name, x.b)
	}
	return m.drop(x.name)
}

// whatOf is what a model has, as what tells it.
func whatOf(m *model) string {
	text := ""
	for _, name := range m.names() {
		text += fmt.Sprintf("%s: %x %v; ", name, m.stands[name], api.OK)
	}
	return text
}

// lives has stores and models live side by side, by calls as the dice fall; behind each call a test is told of both.
func lives(t *testing.T, seed dice, rounds, calls int, behind func(s *store.Store, m *model, x turn, why api.Errno)) {
	t.Helper()
	d := seed
	for range rounds {
		s, m := store.New(), newModel()
		names := []string{"a", "b", "ab", "A", "", "1", "a-"}
		for i := range d.Below(20) {
			names = append(names, key(i))
		}
		for range calls {
			x := turn{pick(&d, names), someBytes(&d), d.Below(3) > 0}
			at := len(s.Image())
			l, why := x.on(s)
			record, want := m.turn(x)
			if why != want {
				t.Fatal(x, why, want)
			}
			if why == api.OK {
				areWrites(t, l, at, record)
			} else if len(l) > 0 {
				t.Fatal(x, l)
			}
			switch d.Below(30) {
			case 0:
				s, m = s.Pack(), m.pack()
			case 1:
				s = opened(t, s.Image())
			case 2:
				s = opened(t, image(s.Image(), []byte{0}, someBytes(&d)))
			}
			behind(s, m, x, why)
		}
	}
}

func TestP21_2AndP21_3HeldAgainstTheWords(t *testing.T) {
	came := map[string]int{}
	lives(t, 3, 400, 120, func(s *store.Store, m *model, x turn, why api.Errno) {
		came[fmt.Sprint(x.put, why)]++
		if !bytes.Equal(s.Image(), m.image) || !slices.Equal(s.Names(), m.names()) || what(s) != whatOf(m) {
			t.Fatal(state(s), whatOf(m))
		}
		b, why := s.Get(x.name)
		if want, e := m.get(x.name); !bytes.Equal(b, want) || why != e {
			t.Fatal(x, b, why)
		}
		if stands, end, can := told(s.Image()); !can || end != len(s.Image()) || len(stands) != len(m.stands) {
			t.Fatal("an image that can't be")
		}
	})
	for _, want := range []string{
		fmt.Sprint(true, api.OK), fmt.Sprint(true, api.ErrName), fmt.Sprint(true, api.ErrLong), fmt.Sprint(true, api.ErrFull),
		fmt.Sprint(false, api.OK), fmt.Sprint(false, api.ErrName), fmt.Sprint(false, api.ErrKey),
	} {
		if came[want] < 20 {
			t.Error("hardly comes", want, came)
		}
	}
}

func TestP21_5ThereAndBack(t *testing.T) {
	d := dice(4)
	lives(t, 5, 60, 60, func(s *store.Store, _ *model, _ turn, _ api.Errno) {
		o := opened(t, s.Image())
		if state(o) != state(s) {
			t.Fatal(state(o), state(s))
		}
		p, q := s.Pack(), opened(t, s.Image()).Pack()
		if state(p) != state(q) {
			t.Fatal(state(p), state(q))
		}
		// It goes on as the other one does; neither knows of the other.
		x := turn{pick(&d, []string{"a", "k03", "new", "?"}), someBytes(&d), d.Below(2) == 0}
		one, other := opened(t, s.Image()), opened(t, s.Image())
		l, why := x.on(one)
		k, also := x.on(other)
		if fmt.Sprint(l, why) != fmt.Sprint(k, also) || state(one) != state(other) || state(o) != state(s) {
			t.Fatal(l, why, k, also)
		}
	})
}

func TestP21_6TheLastOneCounts(t *testing.T) {
	s := store.New()
	for i := range 300 {
		s.Put("a", []byte{byte(i)})
		s.Put("b", nil)
		s.Drop("b")
		if b, why := s.Get("a"); !bytes.Equal(b, []byte{byte(i)}) || why != api.OK {
			t.Fatal(i, b, why)
		}
	}
	d := dice(6)
	for range 200 {
		last, s := map[string][]byte{}, store.New()
		for range 100 {
			name, b := pick(&d, []string{"a", "b", "c", "d"}), someBytes(&d)
			if d.Below(3) > 0 {
				if _, why := s.Put(name, b); why == api.OK {
					last[name] = b
				}
			} else if _, why := s.Drop(name); why == api.OK {
				delete(last, name)
			}
			if d.Below(20) == 0 {
				s = s.Pack()
			}
			for _, name := range []string{"a", "b", "c", "d"} {
				want, is := last[name]
				if got, why := s.Get(name); !bytes.Equal(got, want) || (why == api.OK) != is {
					t.Fatal(name, got, why)
				}
			}
		}
	}
}

func TestTheSameAgain(t *testing.T) {
	run := func() string {
		text := ""
		lives(t, 7, 5, 60, func(s *store.Store, _ *model, _ turn, _ api.Errno) { text += state(s) })
		return text
	}
	if run() != run() {
		t.Error("another one")
	}
}
