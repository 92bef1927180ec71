package frames

import "proviso/api"

// Push is a frame with one more on its stack.
func Push(f api.Frame, t api.Type) (api.Frame, api.Errno) {
	if !shapeCanBe(f) {
		return api.Frame{}, api.ErrShape
	}
	if size(f) == api.MaxSlots {
		return api.Frame{}, api.ErrOver
	}
	f = trimmed(f)
	f.Slots[size(f)] = t
	f.Height++
	return f, api.OK
}

// Pop is a frame without its stack's top, and that.
func Pop(f api.Frame) (api.Frame, api.Type, api.Errno) {
	t, e := Top(f, 0)
	if e != api.OK {
		return api.Frame{}, api.TTop, e
	}
	f.Height--
	return trimmed(f), t, api.OK
}

// Top is what lies n below the stack's top.
func Top(f api.Frame, n int) (api.Type, api.Errno) {
	switch {
	case !shapeCanBe(f):
		return api.TTop, api.ErrShape
	case n < 0:
		return api.TTop, api.ErrArg
	case n >= f.Height:
		return api.TTop, api.ErrUnder
	}
	return f.Slots[size(f)-1-n], api.OK
}

// Load is what is known of a local.
func Load(f api.Frame, slot int) (api.Type, api.Errno) {
	if !shapeCanBe(f) {
		return api.TTop, api.ErrShape
	}
	if slot < 0 || slot >= f.Locals {
		return api.TTop, api.ErrSlot
	}
	return f.Slots[slot], api.OK
}

// Store is a frame of whose local something else is known.
func Store(f api.Frame, slot int, t api.Type) (api.Frame, api.Errno) {
	if _, e := Load(f, slot); e != api.OK {
		return api.Frame{}, e
	}
	f = trimmed(f)
	f.Slots[slot] = t
	return f, api.OK
}
