package onepass_test

import (
	"slices"

	"proviso/api"
	"proviso/cert"
	"proviso/code"
	"proviso/frames"
	"proviso/samples"
	"proviso/step"
	"proviso/types"
)

// possible is 'an environment can be' of DOC.md, word by word.
func possible(e api.Env) bool {
	if _, why := types.Check(e.Classes); why != api.OK {
		return false
	}
	values := slices.DeleteFunc(samples.Valids(e.Classes), func(t api.Type) bool { return t == api.TTop || t == api.TNull })
	for _, s := range e.Sigs {
		if len(s.Params) > 8 || s.Result != api.TTop && !slices.Contains(values, s.Result) {
			return false
		}
		for _, p := range s.Params {
			if !slices.Contains(values, p) {
				return false
			}
		}
	}
	return len(e.Sigs) >= 1 && len(e.Sigs) <= 64 && e.Fn >= 0 && e.Fn < len(e.Sigs)
}

// answered is P9.1, word by word.
func answered(x function) (api.Ghost, int, api.Errno) {
	refused := func(at int, why api.Errno) (api.Ghost, int, api.Errno) { return api.Ghost{}, at, why }
	if !possible(x.e) || x.locals < len(x.e.Sigs[x.e.Fn].Params) || x.locals > 16 {
		return refused(0, api.ErrArg)
	}
	if len(x.b) > 4096 {
		return refused(0, api.ErrLong)
	}
	if len(x.b) == 0 {
		return refused(0, api.ErrOff)
	}
	c, at, why := cert.Decode(x.proof)
	if why != api.OK {
		return refused(at, why)
	}
	for _, y := range c.Entries {
		if !y.Dead && frames.Check(x.e.Classes, y.Frame) != api.OK {
			return refused(y.At, api.ErrEntry)
		}
	}
	if c.Locals != x.locals {
		return refused(0, api.ErrShape)
	}
	return passed(x, c.Entries)
}

// passed is 'The pass', word by word.
func passed(x function, entries []api.Entry) (g api.Ghost, place int, why api.Errno) {
	n := len(x.b)
	said := map[int]api.Entry{}
	for _, y := range entries {
		said[y.At] = y
	}
	start, _ := frames.Start(x.e.Classes, x.e.Sigs[x.e.Fn].Params, x.locals)
	frame := &start
	for a := 0; a < n; {
		y, is := said[a]
		if frame != nil && is {
			if y.Dead {
				return api.Ghost{}, a, api.ErrDead
			}
			g.Compared++
			if !frames.Sub(x.e.Classes, *frame, y.Frame) {
				return api.Ghost{}, a, api.ErrMisfit
			}
			frame = &y.Frame
		} else if frame == nil {
			if !is {
				return api.Ghost{}, a, api.ErrMissing
			}
			if y.Dead {
				for a++; a < n; a++ {
					if _, is := said[a]; is {
						break
					}
				}
				continue
			}
			frame = &y.Frame
		}
		if a, frame, why = followed(x, said, a, *frame, &g); why != api.OK {
			return api.Ghost{}, a, why
		}
	}
	for _, y := range entries {
		if y.At >= n {
			return api.Ghost{}, y.At, api.ErrStray
		}
	}
	return g, 0, api.OK
}

// followed is what 'The pass' says of the instruction at a, with a frame: the place behind it, and the frame, if there is one.
func followed(x function, said map[int]api.Entry, a int, frame api.Frame, g *api.Ghost) (int, *api.Frame, api.Errno) {
	n := len(x.b)
	in, why := code.Decode(x.b, a)
	if why != api.OK {
		return a, nil, why
	}
	g.Fetched = append(g.Fetched, a)
	behind := a + code.Size(in.Op)
	for at := a + 1; at < behind; at++ {
		if _, is := said[at]; is {
			return at, nil, api.ErrStray
		}
	}
	frame, why = step.Apply(x.e, frame, in)
	if why != api.OK {
		return a, nil, why
	}
	if in.Op == api.OpJump || in.Op == api.OpUnless {
		if in.A >= n {
			return a, nil, api.ErrTarget
		}
		y, is := said[in.A]
		if !is {
			return a, nil, api.ErrMissing
		}
		if y.Dead {
			return a, nil, api.ErrDead
		}
		g.Compared++
		if !frames.Sub(x.e.Classes, frame, y.Frame) {
			return a, nil, api.ErrMisfit
		}
	}
	if in.Op == api.OpJump || in.Op == api.OpReturn || in.Op == api.OpTrap {
		return behind, nil, api.OK
	}
	if behind >= n {
		return a, nil, api.ErrOff
	}
	return behind, &frame, api.OK
}
