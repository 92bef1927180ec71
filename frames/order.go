package frames

import (
	"proviso/api"
	"proviso/types"
)

// Sub tells whether a frame is of another one. A type is of another one just if that is what both come to (P2.9): so is a frame.
func Sub(l []api.Class, a, b api.Frame) bool {
	m, e := Merge(l, a, b)
	return e == api.OK && m == b
}

// Merge is the least frame that both are of.
func Merge(l []api.Class, a, b api.Frame) (api.Frame, api.Errno) {
	if e := Check(l, a); e != api.OK {
		return api.Frame{}, e
	}
	if e := Check(l, b); e != api.OK {
		return api.Frame{}, e
	}
	if a.Locals != b.Locals || a.Height != b.Height {
		return api.Frame{}, api.ErrShape
	}
	m := a
	for i := range size(m) {
		m.Slots[i] = types.Merge(l, a.Slots[i], b.Slots[i])
	}
	return m, api.OK
}

// Rank is how many steps a frame is below one of which nothing is known, at most.
func Rank(l []api.Class, f api.Frame) (int, api.Errno) {
	if e := Check(l, f); e != api.OK {
		return 0, e
	}
	n := 0
	for i := range size(f) {
		n += types.Rank(l, f.Slots[i])
	}
	return n, api.OK
}
