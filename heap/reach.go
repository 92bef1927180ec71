package heap

import "proviso/api"

// Live is the references to all objects that are there, rising.
func (h *Heap) Live() []int {
	if !h.isMade() {
		return nil
	}
	return h.those(func(int) bool { return true })
}

// Reach is the references to all objects that are come to from some, rising.
func (h *Heap) Reach(roots []int) ([]int, api.Errno) {
	come, why := h.come(roots)
	if why != api.OK {
		return nil, why
	}
	return h.those(func(i int) bool { return come[i] }), api.OK
}

// Collect takes away all that is not come to from some: how many cells.
func (h *Heap) Collect(roots []int) (int, api.Errno) {
	come, why := h.come(roots)
	if why != api.OK {
		return 0, why
	}
	left, gone := h.objects[:0], 0
	for i, o := range h.objects {
		if come[i] {
			left = append(left, o)
		} else {
			gone += o.cells()
		}
	}
	clear(h.objects[len(left):]) // nothing is kept of those that are gone
	h.objects = left
	h.used -= gone
	return gone, api.OK
}

// those are the references of the objects at some of their places.
func (h *Heap) those(is func(i int) bool) []int {
	var l []int
	for i, o := range h.objects {
		if is(i) {
			l = append(l, o.ref)
		}
	}
	return l
}

// come says of each object whether it is come to.
func (h *Heap) come(roots []int) ([]bool, api.Errno) {
	if !h.isMade() {
		return nil, api.ErrNil
	}
	come := make([]bool, len(h.objects))
	var ahead []int // come to, but not gone on from yet
	to := func(ref int) bool {
		i, is := h.find(ref)
		if is && !come[i] {
			come[i] = true
			ahead = append(ahead, i)
		}
		return is
	}
	for _, ref := range roots {
		if ref != 0 && !to(ref) {
			return nil, api.ErrRef
		}
	}
	for len(ahead) > 0 {
		o := h.objects[ahead[len(ahead)-1]]
		ahead = ahead[:len(ahead)-1]
		for i, leads := range h.leadsOf(o) {
			if leads {
				to(int(o.places[i]))
			}
		}
	}
	return come, api.OK
}

// leadsOf says of each place of an object whether it may lead to another one; a row has none that does.
func (h *Heap) leadsOf(o object) []bool {
	if o.class == row {
		return nil
	}
	return h.leads[o.class]
}
