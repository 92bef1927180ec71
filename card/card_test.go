package card_test

import (
	"bytes"
	"fmt"
	"math"
	"slices"
	"strings"
	"testing"

	"proviso/api"
	"proviso/card"
	"proviso/samples"
	"proviso/store"
)

// quotas are some that may be, and some that may not.
func quotas() []int { return append(samples.Numbers(), 32767, 32768, 32769, 100) }

func TestP22_1New(t *testing.T) {
	for _, quota := range quotas() {
		c, why := card.New(quota)
		if quota < 0 || quota > 32768 {
			if c != nil || why != api.ErrArg {
				t.Error(quota, c, why)
			}
			continue
		}
		if c == nil || why != api.OK || c.Free() != quota || len(c.Names()) > 0 || len(c.Image()) > 0 || c.Selected() != "" {
			t.Error(quota, c, why)
		}
	}
}

func TestP22_1OpenQuota(t *testing.T) {
	for _, quota := range quotas() {
		may := quota >= 0 && quota <= 32768
		for _, image := range [][]byte{nil, {}, {0}, {0, 9, 9}} {
			c, why := card.Open(image, quota)
			if !may && (c != nil || why != api.ErrArg) || may && (why != api.OK || c.Free() != quota || len(c.Names()) > 0 || len(c.Image()) > 0) {
				t.Error(quota, c, why)
			}
		}
		want := api.ErrImage
		if !may {
			want = api.ErrArg // ahead of the image's error
		}
		for _, image := range [][]byte{{3}, {2, 1, 'a'}, make([]byte, 1<<20+1), {1, 1, 'a', 0, 2, 7}} {
			if c, why := card.Open(image, quota); c != nil || why != want {
				t.Error(quota, c, why)
			}
		}
	}
}

func TestP22_1Open(t *testing.T) {
	a, b := small(t, "a"), compiled(t, "b", "fun g(n int) int { return n + 1; }")
	s := storeOf(t, map[string][]byte{"a": a, "b": b})
	all := len(a) + len(b)
	for _, behind := range [][]byte{nil, {0}, {0, 1, 255, 3}} {
		c := opened(t, slices.Concat(s.Image(), behind), all+7)
		if !slices.Equal(c.Names(), []string{"a", "b"}) || c.Free() != 7 || c.Selected() != "" || !bytes.Equal(c.Image(), s.Image()) {
			t.Error(state(c))
		}
		if why := c.Select("b"); why != api.OK {
			t.Error(why)
		}
		if o, why := c.Run("g", []int{4}, 9, 0); why != api.OK || o.Result != 5 {
			t.Error(o, why)
		}
	}
	if _, why := card.Open(s.Image(), all); why != api.OK {
		t.Error(why)
	}
	if c, why := card.Open(s.Image(), all-1); c != nil || why != api.ErrQuota {
		t.Error(c, why)
	}
	s.Drop("a")
	s.Put("b", a)
	if c, why := card.Open(s.Image(), 4096); c != nil || why != api.ErrPackage { // a package of another name
		t.Error(c, why)
	}
	s.Put("b", b) // what counts is what stands there at last
	if c := opened(t, s.Image(), len(b)); c.Free() != 0 {
		t.Error(state(c))
	}
}

func TestP22_1OpenWhatIsNoPackage(t *testing.T) {
	for why, b := range noPackages(t) {
		if len(b) > 4096 {
			continue
		}
		for _, files := range []map[string][]byte{{"m": b}, {"a": small(t, "a"), "m": b}, {"m": b, "z": small(t, "z")}} {
			s := storeOf(t, files)
			for _, quota := range []int{0, 10, 32768} {
				if c, e := card.Open(s.Image(), quota); c != nil || e != api.ErrPackage {
					t.Error(why, quota, e)
				}
			}
			s.Drop("m") // what was dropped is not looked at
			if _, e := card.Open(s.Image(), 32768); e != api.OK {
				t.Error(why, e)
			}
		}
	}
}

func TestP22_1OpenMostPackages(t *testing.T) {
	for n := range 17 {
		s := store.New()
		for i := range n {
			s.Put(key(i), small(t, key(i)))
		}
		want := api.OK
		if n > 8 {
			want = api.ErrQuota
		}
		c, why := card.Open(s.Image(), 32768)
		if why != want || (c != nil) != (why == api.OK) {
			t.Error(n, why)
		}
		if n == 0 {
			continue
		}
		for i := range n { // what is no package is told first, wherever it stands
			s.Put(key(i), []byte{1})
			if _, why := card.Open(s.Image(), 0); why != api.ErrPackage {
				t.Error(n, i, why)
			}
			s.Put(key(i), small(t, key(i)))
		}
	}
}

func TestP22_1OpenTheGreatest(t *testing.T) {
	s := store.New()
	for i := range 8 {
		s.Put(key(i), sized(t, key(i), 4096))
	}
	if c := opened(t, s.Image(), 32768); c.Free() != 0 || len(c.Names()) != 8 {
		t.Error(c.Free(), c.Names())
	}
	if c, why := card.Open(s.Image(), 32767); c != nil || why != api.ErrQuota {
		t.Error(c, why)
	}
}

func TestP22_2ImageAndNames(t *testing.T) {
	c, s := made(t, 32768), store.New()
	for _, name := range []string{"b", "a", "Z", "a_", "aa"} {
		install(t, c, small(t, name))
		s.Put(name, small(t, name))
	}
	c.Remove("a")
	s.Drop("a")
	if !bytes.Equal(c.Image(), s.Image()) || !slices.Equal(c.Names(), []string{"Z", "a_", "aa", "b"}) || !slices.Equal(c.Names(), s.Names()) {
		t.Error(state(c))
	}
}

// noNames are texts that are none.
func noNames() []string {
	return []string{"", "1", "_a", "a-b", "a ", "a\x00", "é", strings.Repeat("n", 25), strings.Repeat("n", 1<<16)}
}

func TestP22_2SizeAndFree(t *testing.T) {
	c := made(t, 1000)
	install(t, c, sized(t, "a", 100))
	install(t, c, sized(t, "b", 333))
	for _, x := range []struct {
		name string
		n    int
		why  api.Errno
	}{{"a", 100, api.OK}, {"b", 333, api.OK}, {"c", 0, api.ErrKey}, {"A", 0, api.ErrKey}} {
		if n, why := c.Size(x.name); n != x.n || why != x.why {
			t.Error(x.name, n, why)
		}
	}
	for _, name := range noNames() {
		if n, why := c.Size(name); n != 0 || why != api.ErrName {
			t.Errorf("%.30q: %d, %v", name, n, why)
		}
	}
	if c.Free() != 567 {
		t.Error(c.Free())
	}
	c.Remove("a")
	if n, why := c.Size("a"); n != 0 || why != api.ErrKey || c.Free() != 667 {
		t.Error(n, why, c.Free())
	}
}

func TestP22_2Pack(t *testing.T) {
	c, s := made(t, 1000), store.New()
	for _, name := range []string{"b", "a", "c"} {
		install(t, c, small(t, name))
		s.Put(name, small(t, name))
	}
	c.Remove("a")
	s.Drop("a")
	c.Select("c")
	was, free := what(c), c.Free()
	if why := c.Pack(); why != api.OK || !bytes.Equal(c.Image(), s.Pack().Image()) || what(c) != was || c.Free() != free || c.Selected() != "c" {
		t.Error(why, state(c))
	}
	if o, why := c.Run("f", nil, 9, 0); o.Steps != 1 || why != api.OK {
		t.Error(o, why)
	}
	packed := state(c)
	if why := c.Pack(); why != api.OK || state(c) != packed {
		t.Error(why, state(c))
	}
	// it goes on from the new image
	ahead := len(c.Image())
	if l := install(t, c, small(t, "a")); l[0].At != ahead {
		t.Error(l)
	}
	empty := made(t, 0)
	if why := empty.Pack(); why != api.OK || len(empty.Image()) > 0 {
		t.Error(why)
	}
}

func TestP22_6ACardThatNoCallMade(t *testing.T) {
	file := small(t, "m")
	for i, c := range []*card.Card{nil, {}, new(card.Card)} {
		for range 2 {
			if len(c.Names()) > 0 || len(c.Image()) > 0 || c.Free() != 0 || c.Selected() != "" {
				t.Error(i, "something is told")
			}
			for _, name := range append(noNames(), "m") {
				if n, why := c.Size(name); n != 0 || why != api.ErrNil {
					t.Error(i, n, why)
				}
				if l, why := c.Remove(name); len(l) > 0 || why != api.ErrNil {
					t.Error(i, l, why)
				}
				if why := c.Select(name); why != api.ErrNil {
					t.Error(i, why)
				}
				if o, why := c.Run(name, []int{1}, -1, math.MaxInt); show(o) != show(api.Outcome{}) || why != api.ErrNil {
					t.Error(i, o, why)
				}
			}
			for _, b := range [][]byte{nil, {}, file, make([]byte, 4097)} {
				if name, l, why := c.Install(b); name != "" || len(l) > 0 || why != api.ErrNil {
					t.Error(i, name, l, why)
				}
			}
			if why := c.Pack(); why != api.ErrNil {
				t.Error(i, why)
			}
		}
	}
	// One without room is made, all the same.
	c := made(t, 0)
	if _, _, why := c.Install(file); why != api.ErrQuota {
		t.Error(why)
	}
	if _, why := c.Run("f", nil, 0, 0); why != api.ErrSelect {
		t.Error(why)
	}
}

func TestNothingHandedInIsChangedOrKept(t *testing.T) {
	file := small(t, "m")
	whole := storeOf(t, map[string][]byte{"m": file}).Image()
	b := append(bytes.Clone(whole), 0, 5, 5)
	c := opened(t, b[:len(whole)], 1000)
	install(t, c, small(t, "n"))
	if !bytes.Equal(b, append(bytes.Clone(whole), 0, 5, 5)) {
		t.Error("the image has changed")
	}
	f := append(small(t, "o"), 5, 5)
	install(t, c, f[:len(f)-2])
	if !bytes.Equal(f, append(small(t, "o"), 5, 5)) {
		t.Error("the file has changed")
	}
	was := state(c)
	samples.Overwrite(b, 99)
	samples.Overwrite(f, 99)
	if state(c) != was {
		t.Error("kept")
	}
	args := []int{4, 77}
	install(t, c, compiled(t, "p", "fun g(n int) int { n = n + 1; return n; }"))
	c.Select("p")
	if o, _ := c.Run("g", args[:1], 100, 0); o.Result != 5 || !slices.Equal(args, []int{4, 77}) {
		t.Error(o, args)
	}
}

func TestAnswersAreNewMemory(t *testing.T) {
	c := made(t, 1000)
	install(t, c, compiled(t, "p", "fun g() { tell 1; tell 2; tell 3; }"))
	c.Select("p")
	was := state(c)
	samples.Overwrite(c.Image(), 99)
	samples.Overwrite(c.Names(), "spoilt")
	o, _ := c.Run("g", nil, 100, 0)
	samples.Overwrite(o.Told, 99)
	if p, why := c.Run("g", nil, 100, 0); !slices.Equal(p.Told, []int{1, 2, 3}) || why != api.OK || state(c) != was {
		t.Error(p, why, state(c))
	}
	for _, call := range []func() []api.Write{
		func() []api.Write { return install(t, c, small(t, "n")) },
		func() []api.Write { l, _ := c.Remove("n"); return l },
	} {
		l := call()
		was := state(c)
		second := bytes.Clone(l[1].Bytes)
		samples.Overwrite(l[0].Bytes, 99)
		if !bytes.Equal(l[1].Bytes, second) || state(c) != was {
			t.Error("shared")
		}
		samples.Overwrite(l[1].Bytes, 99)
		samples.Overwrite(l, api.Write{})
		if state(c) != was {
			t.Error("shared")
		}
	}
}

func TestTwoCardsKnowNothingOfOneAnother(t *testing.T) {
	one, other := made(t, 1000), made(t, 1000)
	install(t, one, small(t, "m"))
	one.Select("m")
	if len(other.Names()) > 0 || other.Selected() != "" || other.Free() != 1000 {
		t.Error(state(other))
	}
	third := opened(t, one.Image(), 1000)
	one.Remove("m")
	if !slices.Equal(third.Names(), []string{"m"}) {
		t.Error(state(third))
	}
}

func TestExamplesOfChapter22(t *testing.T) {
	m := sized(t, "m", 40)
	c := made(t, 100)
	if name, l, why := c.Install(m); name != "m" || len(l) != 2 || why != api.OK || c.Free() != 60 {
		t.Error(name, l, why)
	}
	if _, _, why := c.Install(m); why != api.ErrThere {
		t.Error(why)
	}
	if _, _, why := c.Install(sized(t, "n", 70)); why != api.ErrQuota {
		t.Error(why)
	}
	c.Select("m")
	if o, why := c.Run("f", nil, 100, 0); o.Err != api.OK || why != api.OK {
		t.Error(o, why)
	}
	if _, why := c.Run("g", nil, 100, 0); why != api.ErrFunc {
		t.Error(why)
	}
	c.Remove("m")
	if _, why := c.Run("f", nil, 100, 0); c.Selected() != "" || why != api.ErrSelect {
		t.Error(why)
	}
	for at := range m {
		for _, turn := range []byte{1, 128, 255} {
			b := bytes.Clone(m)
			b[at] ^= turn
			if name, l, why := c.Install(b); name != "" || len(l) > 0 || why != api.ErrPackage {
				t.Error(at, name, why)
			}
		}
	}
	if c, why := card.Open(storeOf(t, map[string][]byte{"a": small(t, "b")}).Image(), 1000); c != nil || why != api.ErrPackage {
		t.Error(fmt.Sprint(c == nil), why)
	}
}
