package store_test

import (
	"bytes"
	"slices"
	"strings"
	"testing"

	"proviso/api"
	"proviso/samples"
	"proviso/store"
)

func TestP21_2Put(t *testing.T) {
	s := store.New()
	var all []byte
	for _, x := range []struct {
		name string
		b    []byte
	}{
		{"a", []byte{7}}, {"b", nil}, {"a", []byte{8, 9}}, {"c", []byte{0}}, {"c", []byte{}}, {strings.Repeat("n", 24), []byte{1, 0, 2}},
		{"b", make([]byte, 255)}, {"b", make([]byte, 256)}, {"a", bytes.Repeat([]byte{255}, 4096)}, {"a", []byte{8, 9}}, {"a", []byte{8, 9}},
	} {
		l, why := s.Put(x.name, x.b)
		if why != api.OK {
			t.Fatal(x.name, why)
		}
		areWrites(t, l, len(all), kept(x.name, x.b...))
		all = append(all, kept(x.name, x.b...)...)
		if b, why := s.Get(x.name); !bytes.Equal(b, x.b) || why != api.OK || !bytes.Equal(s.Image(), all) {
			t.Fatal(x.name, why)
		}
	}
	if !slices.Equal(s.Names(), []string{"a", "b", "c", strings.Repeat("n", 24)}) {
		t.Error(s.Names())
	}
}

func TestP21_2PutOnAnOpenedImage(t *testing.T) {
	ahead := image(kept("a", 7), kept("b", 8))
	for _, behind := range [][]byte{nil, {0}, {0, 1, 2, 3, 255}, image([]byte{0}, kept("c", 9))} {
		s := opened(t, image(ahead, behind))
		l, why := s.Put("c", []byte{5})
		if why != api.OK || !bytes.Equal(s.Image(), image(ahead, kept("c", 5))) {
			t.Error(why, s.Image())
		}
		areWrites(t, l, len(ahead), kept("c", 5))
	}
}

func TestP21_2FirstError(t *testing.T) {
	s := filled(t, 16)
	full := opened(t, long(1<<20))
	for _, s := range []*store.Store{s, full} {
		was := state(s)
		for _, n := range []int{0, 1, 4096, 4097, 1 << 21} {
			for _, name := range noNames() {
				if l, why := s.Put(name, make([]byte, n)); len(l) > 0 || why != api.ErrName {
					t.Errorf("%.30q, %d: %v, %v", name, n, l, why)
				}
			}
			for _, name := range []string{"z", "a"} {
				want := api.ErrFull
				if n > 4096 {
					want = api.ErrLong
				}
				if l, why := s.Put(name, make([]byte, n)); len(l) > 0 || why != want {
					t.Errorf("%s, %d: %v, %v", name, n, l, why)
				}
			}
		}
		if state(s) != was {
			t.Error("something has changed")
		}
	}
	if l, why := s.Put(key(3), make([]byte, 4097)); len(l) > 0 || why != api.ErrLong {
		t.Error(l, why)
	}
}

func TestP21_2MostNames(t *testing.T) {
	for n := range 17 {
		s := filled(t, n)
		_, why := s.Put("new", []byte{1})
		if n < 16 && why != api.OK || n == 16 && why != api.ErrFull || len(s.Names()) != min(n+1, 16) {
			t.Error(n, why)
		}
	}
	s := filled(t, 16)
	for i := range 16 { // names that are there take no more room
		if _, why := s.Put(key(i), []byte{1, 2}); why != api.OK {
			t.Error(i, why)
		}
	}
	s.Drop(key(7))
	if _, why := s.Put("new", nil); why != api.OK || !slices.Contains(s.Names(), "new") {
		t.Error(why)
	}
	if _, why := s.Put(key(7), nil); why != api.ErrFull || slices.Contains(s.Names(), key(7)) {
		t.Error(why)
	}
	isTold(t, s.Image())
}

// edges tries a call, that puts a record of n bytes behind, at the greatest image with which it has room, and at one byte more.
func edges(t *testing.T, n int, call func(s *store.Store) ([]api.Write, api.Errno)) {
	t.Helper()
	for more := range 9 {
		ahead := long(1<<20 - n - 1 + more - 4)
		s := opened(t, ahead)
		was := what(s)
		l, why := call(s)
		if more > 4 {
			if len(l) > 0 || why != api.ErrFull || !bytes.Equal(s.Image(), ahead) || what(s) != was {
				t.Error(n, more, why)
			}
			continue
		}
		if why != api.OK || len(s.Image()) != len(ahead)+n {
			t.Fatal(n, more, why)
		}
		isTold(t, s.Image())
		if b := laid(t, ahead, l, total(l)); len(b) != len(ahead)+n+1 || len(b) > 1<<20 || state(opened(t, b)) != state(s) {
			t.Error(n, more, len(b))
		}
	}
}

func TestP21_2MostBytes(t *testing.T) {
	for _, x := range []struct {
		name string
		n    int
	}{{"a", 0}, {"b", 0}, {"a", 1}, {"c", 4096}, {strings.Repeat("n", 24), 17}} {
		edges(t, 4+len(x.name)+x.n, func(s *store.Store) ([]api.Write, api.Errno) { return s.Put(x.name, make([]byte, x.n)) })
	}
}

func TestP21_2FilledUpByPuts(t *testing.T) {
	s, m := store.New(), newModel()
	for i := 0; ; i++ {
		b := bytes.Repeat([]byte{byte(i)}, 4096)
		_, why := s.Put(key(i%16), b)
		if _, want := m.put(key(i%16), b); why != want {
			t.Fatal(i, why)
		}
		if why == api.ErrFull {
			break
		}
	}
	if n := len(s.Image()); n != 255*4103 || !bytes.Equal(s.Image(), m.image) {
		t.Error(n)
	}
	for n := 4095; n >= 0; n-- { // smaller ones find their room
		_, why := s.Put("k00", make([]byte, n))
		if _, want := m.put("k00", make([]byte, n)); why != want {
			t.Fatal(n, why)
		}
	}
	_, why := s.Drop("k01")
	if _, want := m.drop("k01"); why != want {
		t.Error(why)
	}
	if n := len(s.Image()); n > 1<<20-1 || n < 1<<20-8 {
		t.Error(n)
	}
	isTold(t, s.Image())
	p := s.Pack()
	if _, why := p.Put("k05", make([]byte, 4096)); why != api.OK {
		t.Error(why)
	}
}

func TestP21_3Drop(t *testing.T) {
	longest := strings.Repeat("n", 24)
	ahead := image(kept("a", 7), kept("b", 8), kept(longest, 9), kept("a", 1, 2))
	for _, name := range []string{"a", "b", longest} {
		s := opened(t, ahead)
		l, why := s.Drop(name)
		if why != api.OK || !bytes.Equal(s.Image(), image(ahead, dropped(name))) || len(s.Names()) != 2 {
			t.Fatal(name, why)
		}
		areWrites(t, l, len(ahead), dropped(name))
		if b, why := s.Get(name); len(b) > 0 || why != api.ErrKey {
			t.Error(name, b, why)
		}
		if l, why := s.Drop(name); len(l) > 0 || why != api.ErrKey || len(s.Image()) != len(ahead)+2+len(name) {
			t.Error(name, l, why)
		}
		s.Put(name, []byte{5})
		if b, why := s.Get(name); !bytes.Equal(b, []byte{5}) || why != api.OK {
			t.Error(name, b, why)
		}
	}
}

func TestP21_3FirstError(t *testing.T) {
	for _, s := range []*store.Store{store.New(), filled(t, 16), opened(t, long(1<<20))} {
		was := state(s)
		for _, name := range noNames() {
			if l, why := s.Drop(name); len(l) > 0 || why != api.ErrName {
				t.Errorf("%.30q: %v, %v", name, l, why)
			}
		}
		for _, name := range []string{"z", "A", "k16", "k0", "k000"} {
			if l, why := s.Drop(name); len(l) > 0 || why != api.ErrKey {
				t.Errorf("%s: %v, %v", name, l, why)
			}
		}
		if state(s) != was {
			t.Error("something has changed")
		}
	}
	if l, why := opened(t, long(1<<20)).Drop("a"); len(l) > 0 || why != api.ErrFull {
		t.Error(l, why)
	}
}

func TestP21_3MostBytes(t *testing.T) {
	edges(t, 3, func(s *store.Store) ([]api.Write, api.Errno) { return s.Drop("a") })
	if _, why := filled(t, 16).Drop(key(9)); why != api.OK { // that there are MaxKeys names does not matter
		t.Error(why)
	}
}

func TestAStoreThatNoCallMade(t *testing.T) {
	for i, s := range []*store.Store{nil, {}, new(store.Store)} {
		for _, name := range append(noNames(), "a", "b") {
			if b, why := s.Get(name); len(b) > 0 || why != api.ErrNil {
				t.Error(i, name, b, why)
			}
			for _, b := range [][]byte{nil, {}, {1}, make([]byte, 4097)} {
				if l, why := s.Put(name, b); len(l) > 0 || why != api.ErrNil {
					t.Error(i, name, l, why)
				}
			}
			if l, why := s.Drop(name); len(l) > 0 || why != api.ErrNil {
				t.Error(i, name, l, why)
			}
		}
		if len(s.Image()) > 0 || len(s.Names()) > 0 || s.Pack() != nil {
			t.Error(i, "something is told")
		}
	}
}

func TestNothingHandedInIsChangedOrKept(t *testing.T) {
	whole := image(kept("a", 7), kept("b", 8), []byte{0, 1, 2})
	for _, n := range []int{0, 6, 12, 13, 15} {
		b := bytes.Clone(whole)
		s := opened(t, b[:n])
		s.Put("c", bytes.Repeat([]byte{3}, 100))
		s.Drop("c")
		if !bytes.Equal(b, whole) {
			t.Fatal("changed", n)
		}
		was := state(s)
		samples.Overwrite(b, 99)
		if state(s) != was {
			t.Fatal("kept", n)
		}
	}
	s := store.New()
	b := []byte{1, 2, 3, 4, 5}
	s.Put("a", b[:3])
	s.Put("e", b[:0])
	if !bytes.Equal(b, []byte{1, 2, 3, 4, 5}) {
		t.Error("changed", b)
	}
	was := state(s)
	samples.Overwrite(b, 99)
	if state(s) != was {
		t.Error("kept")
	}
}

func TestAnswersAreNewMemory(t *testing.T) {
	s := opened(t, image(kept("a", 7), kept("b", 8, 9, 10), kept("c")))
	was := state(s)
	for range 2 {
		samples.Overwrite(s.Image(), 99)
		samples.Overwrite(s.Names(), "spoilt")
		for _, name := range []string{"a", "b", "c"} {
			b, _ := s.Get(name)
			samples.Overwrite(b, 99)
		}
		if state(s) != was {
			t.Fatal(state(s))
		}
	}
	one, other := s.Image(), s.Image()
	samples.Overwrite(one, 99)
	if !bytes.Equal(other, s.Image()) {
		t.Error("two images share memory")
	}
	for _, call := range []func() ([]api.Write, api.Errno){
		func() ([]api.Write, api.Errno) { return s.Put("d", []byte{1, 2, 3}) },
		func() ([]api.Write, api.Errno) { return s.Put("d", nil) },
		func() ([]api.Write, api.Errno) { return s.Drop("d") },
	} {
		l, _ := call()
		was := state(s)
		second := bytes.Clone(l[1].Bytes)
		samples.Overwrite(l[0].Bytes, 99)
		if !bytes.Equal(l[1].Bytes, second) {
			t.Error("two writes share memory")
		}
		l[0].Bytes = append(l[0].Bytes[:0:0], 5, 5)
		samples.Overwrite(l[1].Bytes, 99)
		if !bytes.Equal(l[0].Bytes, []byte{5, 5}) || state(s) != was {
			t.Error("a write shares memory")
		}
		samples.Overwrite(l, api.Write{})
		if state(s) != was {
			t.Error("the writes share memory")
		}
	}
}

func TestExamplesOfChapter21(t *testing.T) {
	s := store.New()
	l, why := s.Put("a", []byte{7})
	areWrites(t, l, 0, []byte{1, 1, 'a', 0, 1, 7})
	if why != api.OK || !bytes.Equal(s.Image(), []byte{1, 1, 'a', 0, 1, 7}) {
		t.Error(why, s.Image())
	}
	l, why = s.Drop("a")
	if why != api.OK || len(l) != 2 || l[0].At != 6 || l[1].At != 6 || !bytes.Equal(l[0].Bytes, []byte{0, 1, 'a', 0}) || !bytes.Equal(l[1].Bytes, []byte{2}) {
		t.Error(l, why)
	}
	s = opened(t, []byte{1, 1, 'a', 0, 1, 7, 0, 0xff})
	if b, why := s.Get("a"); !bytes.Equal(b, []byte{7}) || why != api.OK || len(s.Image()) != 6 {
		t.Error(b, why)
	}
	if len(opened(t, []byte{0}).Names()) > 0 {
		t.Error("not empty")
	}
	for _, b := range [][]byte{{3}, {2, 1, 'a'}} {
		if s, why := store.Open(b); s != nil || why != api.ErrImage {
			t.Error(b, why)
		}
	}
}
