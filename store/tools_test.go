package store_test

import (
	"bytes"
	"fmt"
	"slices"
	"testing"

	"proviso/api"
	"proviso/samples"
	"proviso/store"
)

type dice = samples.Dice

func pick[T any](d *dice, l []T) T { return l[d.Below(len(l))] }

// kept is a record that keeps bytes.
func kept(name string, b ...byte) []byte {
	return slices.Concat([]byte{1, byte(len(name))}, []byte(name), []byte{byte(len(b) >> 8), byte(len(b))}, b)
}

// dropped is a record that drops a name.
func dropped(name string) []byte { return append([]byte{2, byte(len(name))}, name...) }

// image is records one behind another.
func image(l ...[]byte) []byte { return slices.Concat(l...) }

// long is an image of n bytes without an end: one name is kept again and again.
func long(n int) []byte {
	var b []byte
	for n-len(b) > 5+4096+5 {
		b = append(b, kept("a", bytes.Repeat([]byte{7}, 4096)...)...)
	}
	if half := (n - len(b)) / 2; half > 5 {
		b = append(b, kept("a", make([]byte, half-5)...)...)
	}
	return append(b, kept("a", make([]byte, n-len(b)-5)...)...)
}

func opened(t *testing.T, b []byte) *store.Store {
	t.Helper()
	s, why := store.Open(b)
	if s == nil || why != api.OK {
		t.Fatalf("% x: %v", first(b), why)
	}
	return s
}

// first is the first bytes, for a test to tell.
func first(b []byte) []byte { return b[:min(len(b), 80)] }

// filled is a store with n names, k00, k01 and so on, and one byte under each.
func filled(t *testing.T, n int) *store.Store {
	t.Helper()
	s := store.New()
	for i := range n {
		if _, why := s.Put(key(i), []byte{byte(i)}); why != api.OK {
			t.Fatal(i, why)
		}
	}
	return s
}

func key(i int) string { return fmt.Sprintf("k%02d", i) }

// state is all that a store tells.
func state(s *store.Store) string { return fmt.Sprintf("%x %s", s.Image(), what(s)) }

// what is what a store has, whatever its image.
func what(s *store.Store) string {
	text := ""
	for _, name := range s.Names() {
		b, why := s.Get(name)
		text += fmt.Sprintf("%s: %x %v; ", name, b, why)
	}
	return text
}

// total is how many bytes writes have.
func total(l []api.Write) int {
	n := 0
	for _, w := range l {
		n += len(w.Bytes)
	}
	return n
}

// laid is an image's bytes with the first n bytes of the writes laid, one by one.
func laid(t *testing.T, image []byte, l []api.Write, n int) []byte {
	t.Helper()
	b := bytes.Clone(image)
	for _, w := range l {
		if w.At < 0 || w.At > len(b) {
			t.Fatal("a write beyond what is there", w.At, len(b))
		}
		for i, x := range w.Bytes {
			if n == 0 {
				return b
			}
			n--
			if w.At+i < len(b) {
				b[w.At+i] = x
			} else {
				b = append(b, x)
			}
		}
	}
	return b
}

// areWrites holds writes against those of a record that is laid at a place.
func areWrites(t *testing.T, l []api.Write, at int, record []byte) {
	t.Helper()
	want := []api.Write{{At: at, Bytes: image([]byte{0}, record[1:], []byte{0})}, {At: at, Bytes: record[:1]}}
	if fmt.Sprint(l) != fmt.Sprint(want) {
		t.Fatalf("%.300v, wanted %.300v", l, want)
	}
}
