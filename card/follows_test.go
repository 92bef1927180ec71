package card_test

import (
	"bytes"
	"fmt"
	"math"
	"slices"
	"testing"

	"proviso/api"
	"proviso/card"
	"proviso/machine"
	"proviso/module"
	"proviso/samples"
	"proviso/store"
)

func TestP22_7NothingIsStuck(t *testing.T) {
	d := dice(1)
	taken, refused := 0, 0
	came := map[api.Errno]int{}
	for range 6000 {
		file := samples.File(&d)
		c := made(t, 32768)
		name, _, why := c.Install(file)
		if why != api.OK {
			refused++
			continue
		}
		taken++
		c.Select(name)
		m, _, _ := module.Decode(file)
		for fn, f := range m.Funcs {
			args, fuel, room := samples.Args(&d, f.Sig), d.Below(3000), d.Below(200)
			o, why := c.Run(f.Name, args, fuel, room)
			if want := machine.Guarded(m, fn, args, fuel, room); why != api.OK || o.Err == api.ErrStuck || show(o) != show(want) {
				t.Fatalf("%+v, %v; wanted %+v", o, why, want)
			}
			came[o.Err]++
		}
	}
	if taken < 1500 || refused < 1500 || came[api.OK] < 500 || came[api.ErrTrap] < 500 || came[api.ErrFuel] < 20 {
		t.Error("something hardly comes", taken, refused, came)
	}
}

// deed is an Install of a file, or, without one, a Remove.
type deed struct {
	name string
	file []byte
}

func (x deed) on(c *card.Card) ([]api.Write, api.Errno) {
	if x.file == nil {
		return c.Remove(x.name)
	}
	_, l, why := c.Install(x.file)
	return l, why
}

func deeds(t *testing.T) []deed {
	return []deed{
		{"a", small(t, "a")}, {"b", compiled(t, "b", "fun g(n int) int { while n > 0 { n = n - 1; } return n; }")}, {"a", sized(t, "a", 50)},
		{"a", nil}, {"b", nil},
	}
}

// isTorn lays the writes of a deed on what is there, cut at each byte: each time a card must have the packages that were there; and the deed's, if none was cut. It hands on what lies there then.
func isTorn(t *testing.T, there []byte, quota int, x deed, behind func(b []byte)) {
	t.Helper()
	had, c := opened(t, there, quota), opened(t, there, quota)
	l, why := x.on(c)
	if why != api.OK {
		if len(l) > 0 || state(c) != state(had) {
			t.Fatal("refused, and another one", why)
		}
		return
	}
	n := total(l)
	for cut := range n + 1 {
		b := laid(there, l, cut)
		want := had
		if cut == n {
			want = c
		}
		if got := opened(t, b, quota); what(got) != what(want) || got.Free() != want.Free() || got.Selected() != "" {
			t.Fatalf("cut at %d: %s, wanted %s", cut, what(got), what(want))
		}
		behind(b)
	}
}

func TestP22_8ATornWrite(t *testing.T) {
	seen := map[string]bool{}
	var deep func(b []byte, left int)
	deep = func(b []byte, left int) {
		key := fmt.Sprintf("%x %d", b, left)
		if left == 0 || seen[key] {
			return
		}
		seen[key] = true
		for _, x := range deeds(t) {
			isTorn(t, b, 120, x, func(b []byte) { deep(b, left-1) })
		}
	}
	deep(nil, 3)
	deep(slices.Concat(kept("a", small(t, "a")), []byte{0}, kept("z", []byte{1}), []byte{1, 2, 3}), 2)
	if len(seen) < 500 {
		t.Error("hardly tried", len(seen))
	}
}

func TestP22_8AtTheLastByte(t *testing.T) {
	a, b := small(t, "a"), small(t, "b")
	isTorn(t, long(t, 1<<20-len(b)-6, a), 1000, deed{"b", b}, func([]byte) {})
	isTorn(t, long(t, 1<<20-4, a), 1000, deed{"a", nil}, func([]byte) {})
}

// model is chapter 22 over again, by its words, on a store.
type model struct {
	quota    int
	s        *store.Store
	selected string
}

func (m *model) used() int {
	n := 0
	for _, name := range m.s.Names() {
		b, _ := m.s.Get(name)
		n += len(b)
	}
	return n
}

func (m *model) install(file []byte) (string, []api.Write, api.Errno) {
	name, is := isPackage(file)
	switch {
	case len(file) > 4096:
		return "", nil, api.ErrLong
	case !is:
		return "", nil, api.ErrPackage
	case slices.Contains(m.s.Names(), name):
		return "", nil, api.ErrThere
	case len(m.s.Names()) == 8:
		return "", nil, api.ErrFull
	case m.used()+len(file) > m.quota:
		return "", nil, api.ErrQuota
	}
	l, why := m.s.Put(name, file)
	if why != api.OK {
		name = ""
	}
	return name, l, why
}

func (m *model) remove(name string) ([]api.Write, api.Errno) {
	l, why := m.s.Drop(name)
	if why == api.OK && m.selected == name {
		m.selected = ""
	}
	return l, why
}

func (m *model) pick(name string) api.Errno {
	_, why := m.s.Get(name)
	if why == api.OK {
		m.selected = name
	}
	return why
}

func (m *model) run(entry string, args []int, fuel, room int) (api.Outcome, api.Errno) {
	if m.selected == "" {
		return api.Outcome{}, api.ErrSelect
	}
	file, _ := m.s.Get(m.selected)
	mod, _, _ := module.Decode(file)
	for fn, f := range mod.Funcs {
		if f.Name == entry {
			return machine.Guarded(mod, fn, args, fuel, room), api.OK
		}
	}
	return api.Outcome{}, api.ErrFunc
}

// stock is what may be handed to a card.
type stock struct {
	packages, others [][]byte // others are no packages, or too long
	names            []string
}

func stocked(t *testing.T) stock {
	t.Helper()
	x := stock{names: append(noNames(), "a")}
	for i := range 50 {
		x.names = append(x.names, key(i%10))
	}
	for i := range 10 {
		x.packages = append(x.packages, small(t, key(i)), sized(t, key(i), 60+100*i), compiled(t, key(i), fmt.Sprint("fun f", i, "(n int) int { tell n; return n * ", i, "; }")))
	}
	x.packages = append(x.packages, sized(t, "k00", 4096), sized(t, "k01", 4096))
	for _, b := range noPackages(t) {
		x.others = append(x.others, b)
	}
	slices.SortFunc(x.others, bytes.Compare) // they come out of a map
	for n := range 5 {
		x.others = append(x.others, sized(t, "k02", 4097+n))
	}
	return x
}

// world is a card and a model side by side, and what may be handed to them.
type world struct {
	stock
	d *dice
	c *card.Card
	m *model
}

// born is a world whose quota is as the dice fall; now and then its image is nearly full.
func born(t *testing.T, d *dice, x stock) *world {
	t.Helper()
	var image []byte
	quota := pick(d, []int{0, 34, 100, 300, 1000, 4096, 32768, 32768, d.Below(3000)})
	if quota >= 100 && d.Below(8) == 0 {
		image = long(t, 1<<20-d.Below(pick(d, []int{6, 40, 400})), x.packages[0])
	}
	s, _ := store.Open(image)
	return &world{x, d, opened(t, image, quota), &model{quota, s, ""}}
}

// call does the same to the card and to the model, and holds what they answer against each other.
func (w *world) call(t *testing.T) (word string, why api.Errno) {
	t.Helper()
	word, got, want, why := w.some(t)
	if got != want {
		t.Fatalf("%s: %.500s, wanted %.500s", word, got, want)
	}
	return word, why
}

func (w *world) some(t *testing.T) (word, got, want string, why api.Errno) {
	name := pick(w.d, w.names)
	switch n := w.d.Below(80); {
	case n == 0:
		why = w.c.Pack()
		w.m.s = w.m.s.Pack()
		return "Pack", show(why), show(api.OK), why
	case n == 1:
		w.c, w.m.selected = opened(t, w.c.Image(), w.m.quota), ""
		return "Open", "", "", api.OK
	case n < 15:
		l, why := w.c.Remove(name)
		k, e := w.m.remove(name)
		return "Remove", show(l) + show(why), show(k) + show(e), why
	case n < 30:
		why := w.c.Select(name)
		return "Select", show(why), show(w.m.pick(name)), why
	case n < 50:
		entry, args := pick(w.d, []string{"f", "f1", "f4", "f7", "g", ""}), make([]int, w.d.Below(2))
		o, why := w.c.Run(entry, args, 100, 10)
		p, e := w.m.run(entry, args, 100, 10)
		return "Run", show(o) + show(why), show(p) + show(e), why
	}
	file := pick(w.d, w.packages)
	if w.d.Below(4) == 0 {
		file = pick(w.d, w.others)
	}
	name, l, why := w.c.Install(file)
	other, k, e := w.m.install(file)
	return "Install", name + show(l) + show(why), other + show(k) + show(e), why
}

// lives has worlds live, by calls as the dice fall; behind each call a test is told of the card and the model.
func lives(t *testing.T, seed dice, rounds, calls int, behind func(c *card.Card, m *model, word string, why api.Errno)) {
	t.Helper()
	x := stocked(t)
	for range rounds {
		w := born(t, &seed, x)
		for range calls {
			word, why := w.call(t)
			behind(w.c, w.m, word, why)
		}
	}
}

func TestHeldAgainstTheWords(t *testing.T) {
	came := map[string]int{}
	lives(t, 2, 300, 100, func(c *card.Card, m *model, word string, why api.Errno) {
		came[word+" "+why.Error()]++
		if !bytes.Equal(c.Image(), m.s.Image()) || !slices.Equal(c.Names(), m.s.Names()) || c.Selected() != m.selected || c.Free() != m.quota-m.used() {
			t.Fatal(state(c))
		}
	})
	for word, l := range map[string][]api.Errno{
		"Install": {api.OK, api.ErrLong, api.ErrPackage, api.ErrThere, api.ErrFull, api.ErrQuota},
		"Remove":  {api.OK, api.ErrName, api.ErrKey, api.ErrFull},
		"Select":  {api.OK, api.ErrName, api.ErrKey},
		"Run":     {api.OK, api.ErrSelect, api.ErrFunc},
	} {
		for _, why := range l {
			if came[word+" "+why.Error()] < 10 {
				t.Error("hardly comes", word, why, came)
			}
		}
	}
}

func TestP22_9OpenedAgain(t *testing.T) {
	lives(t, 3, 40, 60, func(c *card.Card, m *model, _ string, _ api.Errno) {
		if o := opened(t, c.Image(), m.quota); what(o) != what(c) || !bytes.Equal(o.Image(), c.Image()) || o.Free() != c.Free() || o.Selected() != "" {
			t.Fatal(state(c), state(o))
		}
	})
}

func TestP22_10RefusedIsNothing(t *testing.T) {
	d, x, refused := dice(4), stocked(t), map[string]int{}
	for range 50 {
		w := born(t, &d, x)
		for range 80 {
			was := state(w.c)
			word, why := w.call(t)
			if why == api.OK {
				continue
			}
			refused[word]++
			if state(w.c) != was {
				t.Fatal(word, why)
			}
		}
	}
	for _, word := range []string{"Install", "Remove", "Select", "Run"} {
		if refused[word] < 100 {
			t.Error("hardly refused", word, refused)
		}
	}
}

func TestP22_11TheQuota(t *testing.T) {
	least := math.MaxInt
	lives(t, 5, 100, 100, func(c *card.Card, m *model, _ string, _ api.Errno) {
		n := 0
		for _, name := range c.Names() {
			size, _ := c.Size(name)
			n += size
		}
		if n > m.quota || n != m.quota-c.Free() || len(c.Names()) > 8 {
			t.Fatal(n, m.quota, c.Names())
		}
		if m.quota > 0 {
			least = min(least, c.Free())
		}
	})
	if least > 0 {
		t.Error("never used up", least)
	}
}

func TestTheSameAgain(t *testing.T) {
	run := func() string {
		text := ""
		lives(t, 6, 3, 60, func(c *card.Card, _ *model, _ string, _ api.Errno) { text += fmt.Sprint(state(c)) })
		return text
	}
	if run() != run() {
		t.Error("another one")
	}
}
