package heap_test

import (
	"math"
	"slices"

	"proviso/api"
	"proviso/samples"
	"proviso/types"
)

type dice = samples.Dice

// thing is an object of the model; of is its class, or -1.
type thing struct {
	ref, of int
	places  []int
}

// model is chapter 14 over again, by its words: a list of what was made and is there, in the order in which it was.
type model struct {
	classes []api.Class
	room    int
	given   int
	things  []*thing
}

func (m *model) thing(ref int) *thing {
	for _, x := range m.things {
		if x.ref == ref {
			return x
		}
	}
	return nil
}

func (m *model) used() int {
	n := 0
	for _, x := range m.things {
		n += 1 + len(x.places)
	}
	return n
}

func (m *model) live() []int {
	var l []int
	for _, x := range m.things {
		l = append(l, x.ref)
	}
	return l
}

func (m *model) made(of, places int) (int, api.Errno) {
	if places > m.room || m.used()+1+places > m.room {
		return 0, api.ErrFull
	}
	m.given++
	m.things = append(m.things, &thing{m.given, of, make([]int, places)})
	return m.given, api.OK
}

func (m *model) record(class int) (int, api.Errno) {
	if class < 0 || class >= len(m.classes) {
		return 0, api.ErrArg
	}
	return m.made(class, len(types.Fields(m.classes, class)))
}

func (m *model) row(n int) (int, api.Errno) {
	if n < 0 {
		return 0, api.ErrRange
	}
	return m.made(-1, n)
}

// place is an object and the error of a place of it.
func (m *model) place(ref, i int) (*thing, api.Errno) {
	x := m.thing(ref)
	switch {
	case ref == 0:
		return nil, api.ErrNull
	case x == nil:
		return nil, api.ErrRef
	case i < 0 || i >= len(x.places):
		return nil, api.ErrIndex
	}
	return x, api.OK
}

func (m *model) get(ref, i int) (int, api.Errno) {
	x, why := m.place(ref, i)
	if why != api.OK {
		return 0, why
	}
	return x.places[i], api.OK
}

func (m *model) put(ref, i, v int) api.Errno {
	x, why := m.place(ref, i)
	if why != api.OK {
		return why
	}
	if v < math.MinInt32 || v > math.MaxInt32 {
		return api.ErrRange
	}
	x.places[i] = v
	return api.OK
}

func (m *model) length(ref int) (int, api.Errno) {
	x := m.thing(ref)
	switch {
	case ref == 0:
		return 0, api.ErrNull
	case x == nil:
		return 0, api.ErrRef
	}
	return len(x.places), api.OK
}

func (m *model) class(ref int) (int, bool) {
	if x := m.thing(ref); x != nil && x.of >= 0 {
		return x.of, true
	}
	return 0, false
}

// names tells whether an object is named by a place of another one, which leads there.
func (m *model) names(x *thing, ref int) bool {
	for i, f := range types.Fields(m.classes, x.of) {
		if types.IsRef(f.Type) && x.places[i] == ref {
			return true
		}
	}
	return false
}

// reach goes over all objects till none is come to any more.
func (m *model) reach(roots []int) ([]int, api.Errno) {
	var come []int
	for _, r := range roots {
		if r != 0 && m.thing(r) == nil {
			return nil, api.ErrRef
		}
		if r != 0 && !slices.Contains(come, r) {
			come = append(come, r)
		}
	}
	for more := true; more; {
		more = false
		for _, x := range m.things {
			by := func(r int) bool { return m.thing(r).of >= 0 && m.names(m.thing(r), x.ref) }
			if !slices.Contains(come, x.ref) && slices.ContainsFunc(come, by) {
				come, more = append(come, x.ref), true
			}
		}
	}
	slices.Sort(come)
	return come, api.OK
}

func (m *model) collect(roots []int) (int, api.Errno) {
	come, why := m.reach(roots)
	if why != api.OK {
		return 0, why
	}
	had := m.used()
	m.things = slices.DeleteFunc(m.things, func(x *thing) bool { return !slices.Contains(come, x.ref) })
	return had - m.used(), api.OK
}
