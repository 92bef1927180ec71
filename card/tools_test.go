package card_test

import (
	"bytes"
	"fmt"
	"slices"
	"testing"

	"proviso/api"
	"proviso/card"
	"proviso/gen"
	"proviso/infer"
	"proviso/module"
	"proviso/onepass"
	"proviso/samples"
	"proviso/store"
	"proviso/wire"
)

type dice = samples.Dice

func pick[T any](d *dice, l []T) T { return l[d.Below(len(l))] }

// encoded is the file of a module.
func encoded(t *testing.T, m api.Module) []byte {
	t.Helper()
	b, why := module.Encode(m)
	if why != api.OK {
		t.Fatal(why)
	}
	return b
}

// shipped is the file of a module with its certificates.
func shipped(t *testing.T, m api.Module) []byte {
	t.Helper()
	m, fn, at, why := infer.Module(m)
	if why != api.OK {
		t.Fatal(fn, at, why)
	}
	return encoded(t, m)
}

// compiled is the package of a source text.
func compiled(t *testing.T, name, source string) []byte {
	t.Helper()
	m, err := gen.Compile(name, source)
	if err != nil {
		t.Fatal(err)
	}
	return shipped(t, m)
}

// sized is a package of n bytes, with a function f that does nothing for some steps.
func sized(t *testing.T, name string, n int) []byte {
	t.Helper()
	of := func(nops int) []byte {
		b := append(make([]byte, nops), api.OpReturn)
		return shipped(t, api.Module{Name: name, Funcs: []api.Func{{Name: "f", Code: b}}})
	}
	b := of(n - len(of(0)))
	if len(b) != n {
		t.Fatal(len(b), n)
	}
	return b
}

// small is the least package of a name.
func small(t *testing.T, name string) []byte {
	t.Helper()
	return shipped(t, api.Module{Name: name, Funcs: []api.Func{{Name: "f", Code: []byte{api.OpReturn}}}})
}

// summed is bytes with their check sum behind.
func summed(b []byte) []byte {
	n := wire.Sum(b)
	return slices.Concat(b, []byte{byte(n >> 24), byte(n >> 16), byte(n >> 8), byte(n)})
}

// isPackage is the name of the package that bytes are, by the words of chapter 22.
func isPackage(b []byte) (string, bool) {
	m, _, why := module.Decode(b)
	if why != api.OK {
		return "", false
	}
	_, _, why = onepass.Module(m)
	return m.Name, why == api.OK
}

func key(i int) string { return fmt.Sprintf("k%02d", i) }

func made(t *testing.T, quota int) *card.Card {
	t.Helper()
	return opened(t, nil, quota)
}

func opened(t *testing.T, image []byte, quota int) *card.Card {
	t.Helper()
	c, why := card.Open(image, quota)
	if c == nil || why != api.OK {
		t.Fatal(why)
	}
	return c
}

func install(t *testing.T, c *card.Card, file []byte) []api.Write {
	t.Helper()
	want, _ := isPackage(file)
	name, l, why := c.Install(file)
	if why != api.OK || name != want {
		t.Fatal(name, want, why)
	}
	return l
}

// storeOf is a store with these files under their names.
func storeOf(t *testing.T, files map[string][]byte) *store.Store {
	t.Helper()
	s := store.New()
	for name, b := range files {
		if _, why := s.Put(name, b); why != api.OK {
			t.Fatal(name, why)
		}
	}
	return s
}

// kept is a record of a store that keeps bytes.
func kept(name string, b []byte) []byte {
	return slices.Concat([]byte{1, byte(len(name))}, []byte(name), []byte{byte(len(b) >> 8), byte(len(b))}, b)
}

// long is an image of n bytes of which a store has these files, each under its package's name.
func long(t *testing.T, n int, files ...[]byte) []byte {
	t.Helper()
	var image []byte
	for _, b := range files {
		name, _ := isPackage(b)
		image = append(image, kept(name, b)...)
	}
	left := n - len(image) - len("\x02\x06filler")
	for left > 0 {
		size := min(left, 10+4096)
		if left-size < 10 && left > size {
			size -= 10 // for the last one to have room
		}
		image = append(image, kept("filler", make([]byte, size-10))...)
		left -= size
	}
	image = append(image, "\x02\x06filler"...)
	if len(image) != n {
		t.Fatal(len(image), n)
	}
	return image
}

// told is all that a card tells, but for what its packages do.
type told struct {
	image, what string
	free        int
	selected    string
}

func (s told) String() string {
	return fmt.Sprintf("%.80x (%d) %.400s %d %s", s.image, len(s.image), s.what, s.free, s.selected)
}

func state(c *card.Card) told { return told{string(c.Image()), what(c), c.Free(), c.Selected()} }

// what is which packages a card has, byte by byte, as its image tells them.
func what(c *card.Card) string {
	text := ""
	s, _ := store.Open(c.Image())
	for _, name := range c.Names() {
		b, _ := s.Get(name)
		n, why := c.Size(name)
		text += fmt.Sprintf("%s: %x %d %v; ", name, b, n, why)
	}
	return text
}

// total is how many bytes writes have.
func total(l []api.Write) int {
	n := 0
	for _, w := range l {
		n += len(w.Bytes)
	}
	return n
}

// laid is an image's bytes with the first n bytes of the writes laid, one by one.
func laid(image []byte, l []api.Write, n int) []byte {
	b := bytes.Clone(image)
	for _, w := range l {
		part := w.Bytes[:min(n, len(w.Bytes))]
		n -= len(part)
		b = append(b, make([]byte, max(0, w.At+len(part)-len(b)))...)
		copy(b[w.At:], part)
	}
	return b
}

// show is all fields of a thing; an empty list is none.
func show(x any) string { return fmt.Sprintf("%+v", x) }
