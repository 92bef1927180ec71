package infer

import (
	"maps"
	"slices"

	"proviso/api"
	"proviso/code"
	"proviso/flow"
	"proviso/frames"
	"proviso/step"
)

// round is a function's code being gone round.
type round struct {
	env   api.Env
	code  []byte
	known map[int]api.Frame // by address
	fresh []int             // the addresses that are new, rising
	owner map[int]int       // by address: that of the taken instruction to which the byte there belongs
}

// from is ahead of the first round: address 0 alone is known, and new.
func from(start api.Frame, e api.Env, b []byte) *round {
	return &round{env: e, code: b, known: map[int]api.Frame{0: start}, fresh: []int{0}, owner: map[int]int{}}
}

// goRound takes new addresses until there are none; else it tells where an error came up. It is always the least one that is taken: of several errors that settles which is told.
func (r *round) goRound() (place int, why api.Errno) {
rounds:
	for len(r.fresh) > 0 {
		at := r.fresh[0]
		r.fresh = r.fresh[1:]
		f, on, e := r.pass(at)
		if e != api.OK {
			place, why = at, e
			break
		}
		for _, to := range on {
			if e := r.hand(to, f); e != api.OK {
				place, why = to, e
				break rounds
			}
		}
	}
	return place, why
}

// pass is the frame behind the instruction at an address, and where it goes on.
func (r *round) pass(at int) (api.Frame, []int, api.Errno) {
	if at == len(r.code) {
		return api.Frame{}, nil, api.ErrOff
	}
	in, e := code.Decode(r.code, at)
	if e != api.OK {
		return api.Frame{}, nil, e
	}
	if !r.own(in) {
		return api.Frame{}, nil, api.ErrOverlap
	}
	f, e := step.Apply(r.env, r.known[at], in)
	if e != api.OK {
		return api.Frame{}, nil, e
	}
	if code.Jumps(in.Op) && in.A >= len(r.code) {
		return api.Frame{}, nil, api.ErrTarget
	}
	on := flow.Next(in)
	if slices.Contains(on, len(r.code)) {
		return api.Frame{}, nil, api.ErrOff
	}
	return f, on, api.OK
}

// own gives all its bytes to an instruction; false, if one of them is another one's: just then one of the two begins within the other.
func (r *round) own(in api.Instr) bool {
	for at := in.At; at < in.At+code.Size(in.Op); at++ {
		if of, is := r.owner[at]; is && of != in.At {
			return false
		}
		r.owner[at] = in.At
	}
	return true
}

// hand brings a frame to an address, which is new if it knows less by that.
func (r *round) hand(to int, f api.Frame) api.Errno {
	had, is := r.known[to]
	if is {
		m, e := frames.Merge(r.env.Classes, had, f)
		if e != api.OK {
			return e
		}
		f = m
	}
	if is && f == had {
		return api.OK
	}
	r.known[to] = f
	if i, is := slices.BinarySearch(r.fresh, to); !is {
		r.fresh = slices.Insert(r.fresh, i, to)
	}
	return api.OK
}

// entries are the addresses that are known, rising.
func (r *round) entries() []api.Entry {
	var all []api.Entry
	for _, at := range slices.Sorted(maps.Keys(r.known)) {
		all = append(all, api.Entry{At: at, Frame: r.known[at]})
	}
	return all
}
