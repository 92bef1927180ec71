package heap_test

import (
	"math"
	"slices"
	"testing"

	"proviso/api"
	"proviso/heap"
	"proviso/samples"
)

func TestP14_5WhichPlacesLead(t *testing.T) {
	// Class 1 of kinds has the places a any, n int, b bool, s ints, p p, e e.
	for i, leads := range []bool{true, false, false, true, true, true} {
		h := made(t, kinds(), 100)
		from := record(t, h, 1)
		row, _ := h.Row(4)
		for _, to := range []int{row, record(t, h, 0), record(t, h, 1), record(t, h, 2)} { // whatever the field's type says of it
			set(t, h, from, i, to)
			want := []int{from}
			if leads {
				want = append(want, to)
			}
			if l := reached(t, h, from); !slices.Equal(l, want) {
				t.Error(i, to, l)
			}
		}
		for _, to := range []int{0, -1, -2, 99, 6, math.MinInt32, math.MaxInt32} { // no object's
			set(t, h, from, i, to)
			if l := reached(t, h, from); !slices.Equal(l, []int{from}) {
				t.Error(i, to, l)
			}
		}
		set(t, h, from, i, from)
		if l := reached(t, h, from); !slices.Equal(l, []int{from}) {
			t.Error(i, l)
		}
	}
}

func TestP14_5RowsLeadNowhere(t *testing.T) {
	h := made(t, node(), 100)
	a := record(t, h, 0)
	row, _ := h.Row(3)
	for i := range 3 {
		set(t, h, row, i, a)
	}
	if l := reached(t, h, row); !slices.Equal(l, []int{row}) {
		t.Error(l)
	}
	if n, why := h.Collect([]int{row}); n != 3 || why != api.OK {
		t.Error(n, why)
	}
	if v, why := h.Get(row, 2); v != a || why != api.OK {
		t.Error(v, why)
	}
}

func TestP14_5WhatIsGoneLeadsNowhere(t *testing.T) {
	h := made(t, node(), 100)
	for range 4 {
		record(t, h, 0)
	}
	set(t, h, 1, 0, 2) // an int
	set(t, h, 2, 1, 3)
	if n, why := h.Collect([]int{1, 4}); n != 6 || why != api.OK {
		t.Error(n, why)
	}
	set(t, h, 1, 1, 2)
	set(t, h, 4, 1, 5)
	if l := reached(t, h, 1, 4); !slices.Equal(l, []int{1, 4}) {
		t.Error(l)
	}
	record(t, h, 0) // 5: what named nothing names it now
	if l := reached(t, h, 1, 4); !slices.Equal(l, []int{1, 4, 5}) {
		t.Error(l)
	}
}

func TestP14_5Roots(t *testing.T) {
	h := made(t, node(), 100)
	for range 6 {
		record(t, h, 0)
	}
	set(t, h, 5, 1, 1)
	set(t, h, 1, 1, 3)
	h.Collect([]int{1, 3, 4, 5, 6}) // 2 is gone
	for _, x := range []struct{ roots, want []int }{
		{nil, nil}, {[]int{}, nil}, {[]int{0}, nil}, {[]int{0, 0, 0}, nil},
		{[]int{3}, []int{3}}, {[]int{1}, []int{1, 3}}, {[]int{5}, []int{1, 3, 5}},
		{[]int{5, 5, 0, 5}, []int{1, 3, 5}}, {[]int{6, 5, 4, 3, 1}, []int{1, 3, 4, 5, 6}}, {[]int{3, 1, 5}, []int{1, 3, 5}},
		{slices.Repeat([]int{4, 0, 1}, 5000), []int{1, 3, 4}},
	} {
		if l := reached(t, h, x.roots...); !slices.Equal(l, x.want) {
			t.Error(x.roots, l)
		}
	}
	before := state(h, 6)
	for _, wrong := range []int{2, 7, 8, -1, math.MinInt, math.MaxInt, 1<<32 + 1} {
		for _, roots := range [][]int{{wrong}, {1, wrong}, {wrong, 1}, {0, 5, wrong, 2}} {
			if l, why := h.Reach(roots); len(l) > 0 || why != api.ErrRef {
				t.Error(roots, l, why)
			}
			if n, why := h.Collect(roots); n != 0 || why != api.ErrRef || state(h, 6) != before {
				t.Error(roots, n, why)
			}
		}
	}
}

func TestP14_5LongWays(t *testing.T) {
	link := []api.Class{{Name: "link", Parent: -1, Fields: []api.Field{{Name: "next", Type: api.TClass}}}}
	h := made(t, link, 4096)
	for i := range 2048 {
		record(t, h, 0)
		set(t, h, i+1, 0, i)
	}
	if l := reached(t, h, 2048); len(l) != 2048 || l[0] != 1 || !slices.IsSorted(l) {
		t.Error(len(l))
	}
	if n, why := h.Collect([]int{1000}); n != 2096 || why != api.OK || h.Used() != 2000 || len(h.Live()) != 1000 {
		t.Error(n, why)
	}
	set(t, h, 1, 0, 1000)
	if l := reached(t, h, 7); len(l) != 1000 {
		t.Error(len(l))
	}
}

func TestP14_5AllFieldsOfTheGreatestRecords(t *testing.T) {
	c := api.Class{Name: "wide", Parent: -1}
	for i := range 32 {
		c.Fields = append(c.Fields, api.Field{Name: "x" + string(rune('a'+i%26)) + string(rune('a'+i/26)), Type: api.TAny})
	}
	h := made(t, []api.Class{c}, 4096)
	for range 124 {
		record(t, h, 0)
	}
	if _, why := h.Record(0); why != api.ErrFull || h.Used() != 124*33 {
		t.Error(why, h.Used())
	}
	for ref := 1; ref <= 124; ref++ {
		for i := range 32 {
			set(t, h, ref, i, (ref*7+i*11)%125)
		}
	}
	if l := reached(t, h, 1); len(l) != 124 {
		t.Error(len(l))
	}
}

func TestP14_7CellsHeldAgainstTheWords(t *testing.T) {
	came := map[string]int{}
	runs(t, 1, 1200, 250, func(p *pair, word string, why api.Errno) {
		came[word+" "+why.Error()]++
		cells := 0
		for _, ref := range p.h.Live() {
			n, why := p.h.Len(ref)
			if why != api.OK {
				t.Fatal(ref, why)
			}
			cells += 1 + n
		}
		if p.h.Used() != cells || cells > p.m.room || !slices.IsSorted(p.h.Live()) {
			t.Fatal(p.h.Used(), cells, p.m.room, p.h.Live())
		}
	})
	for _, x := range []struct {
		word string
		all  []api.Errno
	}{
		{"Record", []api.Errno{api.OK, api.ErrArg, api.ErrFull}},
		{"Row", []api.Errno{api.OK, api.ErrRange, api.ErrFull}},
		{"Get", []api.Errno{api.OK, api.ErrNull, api.ErrRef, api.ErrIndex}},
		{"Put", []api.Errno{api.OK, api.ErrNull, api.ErrRef, api.ErrIndex, api.ErrRange}},
		{"Len", []api.Errno{api.OK, api.ErrNull, api.ErrRef}},
		{"Class", []api.Errno{api.OK}},
		{"Reach", []api.Errno{api.OK, api.ErrRef}},
		{"Collect", []api.Errno{api.OK, api.ErrRef}},
	} {
		for _, why := range x.all {
			if came[x.word+" "+why.Error()] < 20 {
				t.Error(x.word, why, "hardly comes", came)
			}
		}
	}
}

func TestP14_8WhatIsComeToStays(t *testing.T) {
	gone := 0
	runs(t, 2, 1500, 150, func(p *pair, _ string, _ api.Errno) {
		if p.d.Below(20) > 0 {
			return
		}
		roots := p.there(p.d.Below(4))
		come, _ := p.h.Reach(roots)
		had, places := p.h.Used(), map[int][]int{}
		classes := map[int]int{}
		for _, ref := range come {
			n, _ := p.h.Len(ref)
			for i := range n {
				v, _ := p.h.Get(ref, i)
				places[ref] = append(places[ref], v)
			}
			if c, is := p.h.Class(ref); is {
				classes[ref] = c + 1
			}
		}
		n, why := p.h.Collect(roots)
		m, _ := p.m.collect(roots)
		gone += n
		if why != api.OK || n != m || n != had-p.h.Used() || !slices.Equal(p.h.Live(), come) {
			t.Fatal(n, m, why, p.h.Live(), come)
		}
		for _, ref := range come {
			n, _ := p.h.Len(ref)
			c, is := p.h.Class(ref)
			if n != len(places[ref]) || is != (classes[ref] > 0) || is && c+1 != classes[ref] {
				t.Fatal(ref, n, c, is)
			}
			for i, v := range places[ref] {
				if x, why := p.h.Get(ref, i); x != v || why != api.OK {
					t.Fatal(ref, i, x, why)
				}
			}
		}
		if n, why := p.h.Collect(roots); n != 0 || why != api.OK || !slices.Equal(p.h.Live(), come) {
			t.Fatal("again", n, why)
		}
	})
	if gone < 1000 {
		t.Error("hardly comes", gone)
	}
}

func TestP14_9Rings(t *testing.T) {
	for n := 1; n < 20; n++ {
		h := made(t, node(), 4096)
		for range 2 * n {
			record(t, h, 0)
		}
		for i := range n { // two rings of n each
			set(t, h, 1+i, 1, 1+(i+1)%n)
			set(t, h, n+1+i, 1, n+1+(i+1)%n)
		}
		if l := reached(t, h, n); len(l) != n || l[0] != 1 {
			t.Error(n, l)
		}
		if cells, why := h.Collect([]int{2 * n}); cells != 3*n || why != api.OK || h.Live()[0] != n+1 {
			t.Error(n, cells, why)
		}
		if cells, why := h.Collect([]int{0}); cells != 3*n || why != api.OK || h.Used() != 0 || len(h.Live()) != 0 {
			t.Error(n, cells, why)
		}
	}
}

func TestP14_10RefusedCallsAndLooksChangeNothing(t *testing.T) {
	looks := []string{"Get", "Len", "Class", "Reach"}
	tables := [][]api.Class{node(), kinds(), nil}
	d, refused := dice(3), 0
	for i := range 600 {
		p := newPair(t, &d, tables[i%3], []int{0, 8, 60}[i/3%3])
		for range 60 {
			before := state(p.h, p.m.given)
			word, why := p.call()
			if why != api.OK {
				refused++
			}
			if (why != api.OK || slices.Contains(looks, word)) && state(p.h, p.m.given) != before {
				t.Fatal(word, why, before, state(p.h, p.m.given))
			}
		}
		p.isSame()
	}
	if refused < 1000 {
		t.Error("hardly comes", refused)
	}
}

func TestP14_11MoreRoots(t *testing.T) {
	tried := 0
	runs(t, 4, 600, 150, func(p *pair, _ string, _ api.Errno) {
		a, b := p.there(p.d.Below(4)), p.there(p.d.Below(4))
		x, y := reached(t, p.h, a...), reached(t, p.h, b...)
		both := append(slices.Clone(x), y...)
		slices.Sort(both)
		both = slices.Compact(both)
		if l := reached(t, p.h, append(slices.Clone(a), b...)...); !slices.Equal(l, both) {
			t.Fatal(a, b, l, both)
		}
		if len(both) > max(len(x), len(y)) {
			tried++
		}
	})
	if tried < 500 {
		t.Error("hardly comes", tried)
	}
}

func TestTwoHeapsKnowNothingOfOneAnother(t *testing.T) {
	a, b := made(t, node(), 8), made(t, node(), 8)
	record(t, a, 0)
	record(t, a, 0)
	if ref := record(t, b, 0); ref != 1 || b.Used() != 3 {
		t.Error(ref)
	}
	set(t, a, 1, 0, 5)
	a.Collect(nil)
	if v, why := b.Get(1, 0); v != 0 || why != api.OK || len(b.Live()) != 1 {
		t.Error(v, why)
	}
}

func TestNothingHandedInIsChangedOrKept(t *testing.T) {
	l := kinds()
	h := made(t, l, 100)
	for c := range l {
		for i := range l[c].Fields {
			l[c].Fields[i].Type = api.TInt
		}
		l[c] = api.Class{Name: "spoilt"}
	}
	from, to := record(t, h, 1), record(t, h, 2)
	set(t, h, from, 4, to)
	if got := reached(t, h, from); !slices.Equal(got, []int{1, 2}) {
		t.Error(got)
	}
	room := []int{2, 0, 1, 2, 77}
	roots := room[:4]
	h.Reach(roots)
	h.Collect(roots)
	if !slices.Equal(room, []int{2, 0, 1, 2, 77}) {
		t.Error(room)
	}
	cut := samples.Shapes()[:3]
	cut[2].Fields[1].Type = samples.List // a class behind the end is none
	if h, why := heap.New(cut, 8); h != nil || why != api.ErrType {
		t.Error(h, why)
	}
	if _, why := made(t, samples.Shapes()[:3], 8).Record(3); why != api.ErrArg {
		t.Error(why)
	}
}

func TestAnswersAreNewMemory(t *testing.T) {
	h := made(t, node(), 100)
	for range 5 {
		record(t, h, 0)
	}
	roots := []int{1, 2, 3, 4, 5}
	all := [][]int{roots, h.Live(), h.Live(), reached(t, h, roots...), reached(t, h, roots...)}
	for i, l := range all {
		l = l[:cap(l)]
		for j := range l {
			l[j] = -7
		}
		for _, other := range all[i+1:] {
			if !slices.Equal(other, []int{1, 2, 3, 4, 5}) {
				t.Fatal(i, other)
			}
		}
	}
	if !slices.Equal(h.Live(), []int{1, 2, 3, 4, 5}) {
		t.Error(h.Live())
	}
}

func TestAllEndsOfAllArguments(t *testing.T) {
	h := made(t, kinds(), 50)
	for range 5 {
		record(t, h, 1)
	}
	for _, a := range samples.Numbers() {
		h.Record(a)
		h.Row(a)
		h.Len(a)
		h.Class(a)
		h.Reach([]int{a, a})
		for _, b := range samples.Numbers() {
			h.Get(a, b)
			for _, c := range samples.Numbers() {
				h.Put(a, b, c)
			}
		}
	}
	if h.Used() > 50 || len(h.Live()) < 5 {
		t.Error(h.Used(), h.Live())
	}
}
