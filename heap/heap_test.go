package heap_test

import (
	"math"
	"slices"
	"testing"

	"proviso/api"
	"proviso/heap"
	"proviso/samples"
)

func TestP14_1New(t *testing.T) {
	wrong := []api.Class{{Name: "?", Parent: -1}}
	for _, room := range append(samples.Numbers(), 8) {
		for _, l := range [][]api.Class{nil, {}, node(), samples.Shapes(), samples.Chain(32)} {
			h, why := heap.New(l, room)
			if room < 0 || room > 4096 {
				if h != nil || why != api.ErrArg {
					t.Error(room, h, why)
				}
				continue
			}
			if h == nil || why != api.OK || h.Used() != 0 || len(h.Live()) > 0 {
				t.Error(room, h, why)
			}
		}
		want := api.ErrName
		if room < 0 || room > 4096 {
			want = api.ErrArg // ahead of the table's error
		}
		if h, why := heap.New(wrong, room); h != nil || why != want {
			t.Error(room, h, why)
		}
	}
}

func TestP14_1TablesThatMayNotBe(t *testing.T) {
	field := api.Field{Name: "x", Type: api.TInt}
	for i, x := range []struct {
		l    []api.Class
		want api.Errno
	}{
		{samples.Chain(33), api.ErrLong},
		{[]api.Class{{Name: "", Parent: -1}}, api.ErrName},
		{[]api.Class{{Name: "any", Parent: -1}}, api.ErrName},
		{[]api.Class{{Name: "a", Parent: -1}, {Name: "a", Parent: -1}}, api.ErrTwice},
		{[]api.Class{{Name: "a"}}, api.ErrParent},
		{[]api.Class{{Name: "a", Parent: -2}}, api.ErrParent},
		{[]api.Class{{Name: "a", Parent: -1, Fields: []api.Field{field, field}}}, api.ErrTwice},
		{[]api.Class{{Name: "a", Parent: -1, Fields: []api.Field{{Name: "x"}}}}, api.ErrType},
		{[]api.Class{{Name: "a", Parent: -1, Fields: []api.Field{{Name: "x", Type: api.TNull}}}}, api.ErrType},
		{[]api.Class{{Name: "a", Parent: -1, Fields: []api.Field{{Name: "x", Type: api.TClass + 1}}}}, api.ErrType},
	} {
		if h, why := heap.New(x.l, 8); h != nil || why != x.want {
			t.Error(i, h, why)
		}
	}
}

func TestP14_2Record(t *testing.T) {
	for class, places := range []int{2, 6, 0} { // the parents' fields counted
		h := made(t, kinds(), 7)
		if ref, why := h.Record(class); ref != 1 || why != api.OK {
			t.Error(class, ref, why)
		}
		n, _ := h.Len(1)
		if c, is := h.Class(1); n != places || h.Used() != places+1 || c != class || !is {
			t.Error(class, n, h.Used(), c, is)
		}
		for i := range n {
			if v, why := h.Get(1, i); v != 0 || why != api.OK {
				t.Error(class, i, v, why)
			}
		}
		if full, why := heap.New(kinds(), places); why != api.OK {
			t.Error(why)
		} else if ref, why := full.Record(class); ref != 0 || why != api.ErrFull || full.Used() != 0 {
			t.Error(class, ref, why)
		}
	}
	h := made(t, kinds(), 0) // full already: that there is no such class is asked first
	for _, class := range []int{-1, 3, 4, math.MinInt, math.MaxInt, 1 << 32} {
		if ref, why := h.Record(class); ref != 0 || why != api.ErrArg {
			t.Error(class, ref, why)
		}
	}
	if ref, why := made(t, nil, 9).Record(0); ref != 0 || why != api.ErrArg {
		t.Error(ref, why)
	}
}

func TestP14_2Row(t *testing.T) {
	for _, room := range []int{0, 1, 2, 9, 4095, 4096} {
		for _, n := range append(samples.Numbers(), room-2, room-1, room, room+1) {
			h := made(t, nil, room)
			ref, why := h.Row(n)
			switch {
			case n < 0:
				if ref != 0 || why != api.ErrRange {
					t.Error(room, n, ref, why)
				}
			case n >= room:
				if ref != 0 || why != api.ErrFull || h.Used() != 0 {
					t.Error(room, n, ref, why)
				}
			default:
				size, e := h.Len(1)
				c, is := h.Class(1)
				if ref != 1 || why != api.OK || h.Used() != n+1 || size != n || e != api.OK || c != 0 || is {
					t.Error(room, n, ref, why, h.Used(), size, c, is)
				}
			}
		}
	}
}

func TestP14_2NoReferenceIsGivenTwice(t *testing.T) {
	h := made(t, node(), 8)
	for want := 1; want < 3000; want++ {
		ref, why := h.Record(0)
		if ref != want || why != api.OK {
			t.Fatal(ref, want, why)
		}
		if want%2 == 0 {
			for _, class := range []int{0, 7} { // refused: no reference is used up
				if ref, _ := h.Record(class); ref != 0 {
					t.Fatal(ref)
				}
			}
			if ref, _ := h.Row(2); ref != 0 {
				t.Fatal(ref)
			}
			if n, why := h.Collect(nil); n != 6 || why != api.OK {
				t.Fatal(n, why)
			}
		}
	}
}

func TestP14_2FullAtTheLastCell(t *testing.T) {
	h := made(t, node(), 4096)
	for range 1365 {
		record(t, h, 0)
	}
	if _, why := h.Record(0); why != api.ErrFull || h.Used() != 4095 {
		t.Error(why, h.Used())
	}
	for _, n := range []int{1, 2, 4096, math.MaxInt - 1, math.MaxInt} {
		if ref, why := h.Row(n); ref != 0 || why != api.ErrFull {
			t.Error(n, ref, why)
		}
	}
	if ref, why := h.Row(0); ref != 1366 || why != api.OK || h.Used() != 4096 {
		t.Error(ref, why)
	}
	for _, n := range []int{0, 1, math.MaxInt} {
		if ref, why := h.Row(n); ref != 0 || why != api.ErrFull {
			t.Error(n, ref, why)
		}
	}
}

// wrongPlaces are references and places of a heap of a node 1, a row 3 of two numbers, and 2, which is gone, with the first error.
func wrongPlaces(t *testing.T) (*heap.Heap, [][2]int, []api.Errno) {
	h := made(t, node(), 20)
	record(t, h, 0)
	record(t, h, 0)
	h.Row(2)
	if n, why := h.Collect([]int{1, 3}); n != 3 || why != api.OK {
		t.Fatal(n, why)
	}
	var places [][2]int
	var want []api.Errno
	add := func(ref, i int, why api.Errno) { places, want = append(places, [2]int{ref, i}), append(want, why) }
	for _, i := range []int{math.MinInt, -1, 0, 1, 2, 3, math.MaxInt} {
		add(0, i, api.ErrNull)
		for _, ref := range []int{2, 4, 5, -1, -3, math.MinInt, math.MaxInt, 1<<32 + 1} {
			add(ref, i, api.ErrRef)
		}
		if i < 0 || i > 1 {
			add(1, i, api.ErrIndex)
			add(3, i, api.ErrIndex)
		}
	}
	return h, places, want
}

func TestP14_3WrongPlaces(t *testing.T) {
	h, places, want := wrongPlaces(t)
	before := state(h, 3)
	for n, x := range places {
		if v, why := h.Get(x[0], x[1]); v != 0 || why != want[n] {
			t.Error("Get", x, v, why)
		}
		for _, v := range []int{0, 7, math.MinInt32 - 1, math.MaxInt} { // the number is looked at last
			if why := h.Put(x[0], x[1], v); why != want[n] {
				t.Error("Put", x, v, why)
			}
		}
		if want[n] == api.ErrIndex {
			continue
		}
		if v, why := h.Len(x[0]); v != 0 || why != want[n] {
			t.Error("Len", x, v, why)
		}
		if c, is := h.Class(x[0]); c != 0 || is {
			t.Error("Class", x, c, is)
		}
	}
	if state(h, 3) != before {
		t.Error("something has changed")
	}
}

func TestP14_3PutAndGet(t *testing.T) {
	h := made(t, kinds(), 20)
	q := record(t, h, 1)
	row, _ := h.Row(3)
	for _, v := range append(samples.Numbers(), math.MinInt32-1, math.MaxInt32+1) {
		for _, ref := range []int{q, row} {
			n, _ := h.Len(ref)
			for i := range n {
				set(t, h, ref, i, 40+i)
				want, err := v, api.OK
				if v < -1<<31 || v > 1<<31-1 {
					want, err = 40+i, api.ErrRange
				}
				if why := h.Put(ref, i, v); why != err {
					t.Error(ref, i, v, why)
				}
				for j := range n { // no other place has changed
					x, why := h.Get(ref, j)
					if j == i && x != want || j < i && x == 40+i || why != api.OK {
						t.Error(ref, i, j, v, x, why)
					}
				}
			}
		}
	}
}

func TestP14_3LenAndClass(t *testing.T) {
	h := made(t, samples.Shapes(), 100)
	for c, n := range []int{1, 2, 3, 1} {
		ref := record(t, h, c)
		size, why := h.Len(ref)
		if class, is := h.Class(ref); size != n || why != api.OK || class != c || !is {
			t.Error(c, size, why, class, is)
		}
	}
	ref, _ := h.Row(5)
	size, why := h.Len(ref)
	if class, is := h.Class(ref); size != 5 || why != api.OK || class != 0 || is {
		t.Error(size, why, class, is)
	}
}

func TestP14_4UsedAndLive(t *testing.T) {
	h := made(t, samples.Shapes(), 100)
	if h.Used() != 0 || len(h.Live()) != 0 {
		t.Error(h.Used(), h.Live())
	}
	used := 0
	for i, cells := range []int{2, 3, 4, 2} {
		record(t, h, i)
		used += cells
		if h.Used() != used || len(h.Live()) != i+1 {
			t.Error(i, h.Used(), h.Live())
		}
	}
	h.Row(0)
	h.Row(9)
	if h.Used() != used+11 || !slices.Equal(h.Live(), []int{1, 2, 3, 4, 5, 6}) {
		t.Error(h.Used(), h.Live())
	}
	h.Collect([]int{5, 2})
	if h.Used() != 4 || !slices.Equal(h.Live(), []int{2, 5}) {
		t.Error(h.Used(), h.Live())
	}
	h.Row(1)
	if h.Used() != 6 || !slices.Equal(h.Live(), []int{2, 5, 7}) {
		t.Error(h.Used(), h.Live())
	}
}

func TestP14_6AHeapThatNewDidNotMake(t *testing.T) {
	for i, h := range []*heap.Heap{nil, {}, new(heap.Heap)} {
		for _, n := range samples.Numbers() {
			if ref, why := h.Record(n); ref != 0 || why != api.ErrNil {
				t.Error(i, "Record", n, ref, why)
			}
			if ref, why := h.Row(n); ref != 0 || why != api.ErrNil {
				t.Error(i, "Row", n, ref, why)
			}
			if v, why := h.Get(n, n); v != 0 || why != api.ErrNil {
				t.Error(i, "Get", n, v, why)
			}
			if why := h.Put(n, n, n); why != api.ErrNil {
				t.Error(i, "Put", n, why)
			}
			if v, why := h.Len(n); v != 0 || why != api.ErrNil {
				t.Error(i, "Len", n, v, why)
			}
			if c, is := h.Class(n); c != 0 || is {
				t.Error(i, "Class", n, c, is)
			}
			for _, roots := range [][]int{nil, {}, {0}, {n}} {
				if l, why := h.Reach(roots); len(l) > 0 || why != api.ErrNil {
					t.Error(i, "Reach", n, l, why)
				}
				if v, why := h.Collect(roots); v != 0 || why != api.ErrNil {
					t.Error(i, "Collect", n, v, why)
				}
			}
		}
		if h.Used() != 0 || len(h.Live()) != 0 {
			t.Error(i, h.Used(), h.Live())
		}
	}
	// One without room and classes is made, all the same.
	h := made(t, nil, 0)
	if _, why := h.Row(0); why != api.ErrFull {
		t.Error(why)
	}
	if l, why := h.Reach(nil); len(l) > 0 || why != api.OK {
		t.Error(l, why)
	}
}

func TestExamplesOfChapter14(t *testing.T) {
	h := made(t, node(), 8)
	record(t, h, 0)
	record(t, h, 0)
	set(t, h, 1, 1, 2)
	if _, why := h.Row(2); why != api.ErrFull {
		t.Error(why)
	}
	if ref, why := h.Row(1); ref != 3 || why != api.OK || h.Used() != 8 {
		t.Error(ref, why)
	}
	for _, x := range []struct {
		ref, i, v int
		why       api.Errno
	}{{1, 1, 2, api.OK}, {1, 2, 0, api.ErrIndex}, {0, 0, 0, api.ErrNull}, {9, 0, 0, api.ErrRef}} {
		if v, why := h.Get(x.ref, x.i); v != x.v || why != x.why {
			t.Error(x, v, why)
		}
	}
	if l := reached(t, h, 1); !slices.Equal(l, []int{1, 2}) {
		t.Error(l)
	}
	if n, why := h.Collect([]int{1, 0}); n != 2 || why != api.OK || !slices.Equal(h.Live(), []int{1, 2}) {
		t.Error(n, why)
	}
	if ref, why := h.Row(1); ref != 4 || why != api.OK {
		t.Error(ref, why)
	}
	set(t, h, 2, 0, 1)
	if l := reached(t, h, 2); !slices.Equal(l, []int{2}) {
		t.Error(l)
	}
	set(t, h, 2, 1, 1)
	if l := reached(t, h, 2); !slices.Equal(l, []int{1, 2}) {
		t.Error(l)
	}
	if n, why := h.Collect(nil); n != 8 || why != api.OK || h.Used() != 0 {
		t.Error(n, why)
	}
}
