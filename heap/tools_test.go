package heap_test

import (
	"fmt"
	"math"
	"slices"
	"testing"

	"proviso/api"
	"proviso/heap"
	"proviso/samples"
)

// node is the table of the chapter's examples.
func node() []api.Class {
	return []api.Class{{Name: "node", Parent: -1, Fields: []api.Field{{Name: "v", Type: api.TInt}, {Name: "next", Type: api.TClass}}}}
}

// kinds is a table whose class 1 has a place of each type, the first two of which are its parent's; class 2 has none.
func kinds() []api.Class {
	return []api.Class{
		{Name: "p", Parent: -1, Fields: []api.Field{{Name: "a", Type: api.TAny}, {Name: "n", Type: api.TInt}}},
		{Name: "q", Parent: 0, Fields: []api.Field{{Name: "b", Type: api.TBool}, {Name: "s", Type: api.TInts}, {Name: "p", Type: api.TClass}, {Name: "e", Type: api.TClass + 2}}},
		{Name: "e", Parent: -1},
	}
}

// made is a heap that can be.
func made(t *testing.T, l []api.Class, room int) *heap.Heap {
	t.Helper()
	h, why := heap.New(l, room)
	if h == nil || why != api.OK {
		t.Fatal(h, why)
	}
	return h
}

// record is a new one's reference.
func record(t *testing.T, h *heap.Heap, class int) int {
	t.Helper()
	ref, why := h.Record(class)
	if why != api.OK {
		t.Fatal(class, why)
	}
	return ref
}

// set puts a number, which must be taken.
func set(t *testing.T, h *heap.Heap, ref, i, v int) {
	t.Helper()
	if why := h.Put(ref, i, v); why != api.OK {
		t.Fatal(ref, i, v, why)
	}
}

// reached is what Reach answers, which must be OK.
func reached(t *testing.T, h *heap.Heap, roots ...int) []int {
	t.Helper()
	l, why := h.Reach(roots)
	if why != api.OK {
		t.Fatal(roots, why)
	}
	return l
}

// state is all that a heap tells of itself without being changed: of references up to one behind the last, and some others.
func state(h *heap.Heap, last int) string {
	s := fmt.Sprint(h.Used(), h.Live())
	for _, ref := range append(h.Live(), 0, -1, last+1) {
		n, why := h.Len(ref)
		c, is := h.Class(ref)
		l, reach := h.Reach([]int{ref})
		s += fmt.Sprintln(ref, n, why, c, is, l, reach)
		for i := range n {
			v, _ := h.Get(ref, i)
			s += fmt.Sprint(v, " ")
		}
	}
	return s
}

// pair is a heap and what the words make of the same calls.
type pair struct {
	t *testing.T
	d *dice
	h *heap.Heap
	m *model
}

func newPair(t *testing.T, d *dice, l []api.Class, room int) *pair {
	return &pair{t, d, made(t, l, room), &model{classes: l, room: room}}
}

// ref is a reference that is there, for the most part.
func (p *pair) ref() int {
	switch live := p.m.live(); {
	case p.d.Below(12) == 0:
		return samples.Numbers()[p.d.Below(len(samples.Numbers()))]
	case len(live) > 0 && p.d.Below(12) > 0:
		return live[p.d.Below(len(live))]
	}
	return p.d.Below(p.m.given + 2)
}

func (p *pair) refs(n int) []int {
	var l []int
	for range n {
		ref := p.ref()
		if p.m.thing(ref) == nil && p.d.Below(4) > 0 {
			ref = 0
		}
		l = append(l, ref)
	}
	return l
}

// there are refs that may be roots.
func (p *pair) there(n int) []int {
	return slices.DeleteFunc(p.refs(n), func(r int) bool { return r != 0 && p.m.thing(r) == nil })
}

// number is one that some place may hold, for the most part.
func (p *pair) number() int {
	switch p.d.Below(6) {
	case 0:
		return samples.Numbers()[p.d.Below(len(samples.Numbers()))]
	case 1:
		return []int{math.MinInt32 - 1, math.MinInt32, math.MaxInt32, math.MaxInt32 + 1}[p.d.Below(4)]
	}
	return p.ref()
}

// call makes one call of both, and holds the answers against each other: the word of the call, and its error.
func (p *pair) call() (string, api.Errno) {
	var word, got, want string
	var why api.Errno
	told := func(w string, a, b any, e, f api.Errno) {
		word, got, want, why = w, fmt.Sprint(a, e), fmt.Sprint(b, f), f
	}
	switch n := p.d.Below(24); {
	case n < 5:
		class := p.d.Below(len(p.m.classes)+2) - 1
		a, e := p.h.Record(class)
		b, f := p.m.record(class)
		told("Record", a, b, e, f)
	case n < 7:
		size := p.d.Below(8) - 1
		if p.d.Below(8) == 0 {
			size = p.number()
		}
		a, e := p.h.Row(size)
		b, f := p.m.row(size)
		told("Row", a, b, e, f)
	case n < 10:
		ref, i := p.ref(), p.d.Below(8)-1
		a, e := p.h.Get(ref, i)
		b, f := p.m.get(ref, i)
		told("Get", a, b, e, f)
	case n < 18:
		ref, i, v := p.ref(), p.d.Below(8)-1, p.number()
		told("Put", 0, 0, p.h.Put(ref, i, v), p.m.put(ref, i, v))
	case n < 19:
		ref := p.ref()
		a, e := p.h.Len(ref)
		b, f := p.m.length(ref)
		told("Len", a, b, e, f)
	case n < 20:
		ref := p.ref()
		a, x := p.h.Class(ref)
		b, y := p.m.class(ref)
		told("Class", fmt.Sprint(a, x), fmt.Sprint(b, y), api.OK, api.OK)
	case n < 23:
		roots := p.refs(p.d.Below(4))
		a, e := p.h.Reach(roots)
		b, f := p.m.reach(roots)
		told("Reach", a, b, e, f)
	default:
		roots := p.refs(p.d.Below(6))
		a, e := p.h.Collect(roots)
		b, f := p.m.collect(roots)
		told("Collect", a, b, e, f)
	}
	if got != want {
		p.t.Fatal(word, got, "wanted", want)
	}
	return word, why
}

// isSame holds all of both against each other.
func (p *pair) isSame() {
	p.t.Helper()
	if p.h.Used() != p.m.used() || !slices.Equal(p.h.Live(), p.m.live()) {
		p.t.Fatal(p.h.Used(), p.m.used(), p.h.Live(), p.m.live())
	}
	for _, x := range p.m.things {
		n, _ := p.h.Len(x.ref)
		c, is := p.h.Class(x.ref)
		if n != len(x.places) || is != (x.of >= 0) || is && c != x.of {
			p.t.Fatal(x, n, c, is)
		}
		for i, v := range x.places {
			if got, why := p.h.Get(x.ref, i); got != v || why != api.OK {
				p.t.Fatal(x, i, got, why)
			}
		}
	}
}

// runs makes so many calls each on heaps of all sizes, and tells each.
func runs(t *testing.T, seed dice, heaps, calls int, each func(p *pair, word string, why api.Errno)) {
	tables := [][]api.Class{node(), kinds(), samples.Shapes(), samples.Chain(32), nil}
	for i := range heaps {
		p := newPair(t, &seed, tables[i%5], []int{0, 1, 8, 30, 200, 4096}[i%6])
		for range calls {
			word, why := p.call()
			each(p, word, why)
		}
		p.isSame()
	}
}
