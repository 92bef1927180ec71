package infer_test

import (
	"slices"

	"proviso/api"
	"proviso/cert"
	"proviso/code"
	"proviso/frames"
	"proviso/samples"
	"proviso/step"
	"proviso/types"
)

// may is P8.1, word by word.
func may(e api.Env, locals int) api.Errno {
	if _, why := types.Check(e.Classes); why != api.OK {
		return why
	}
	if len(e.Sigs) > 64 {
		return api.ErrLong
	}
	stored := slices.DeleteFunc(samples.Valids(e.Classes), func(t api.Type) bool { return t == api.TTop || t == api.TNull })
	for _, s := range e.Sigs {
		if len(s.Params) > 8 {
			return api.ErrLong
		}
		for _, p := range s.Params {
			if !slices.Contains(stored, p) {
				return api.ErrType
			}
		}
		if s.Result != api.TTop && !slices.Contains(stored, s.Result) {
			return api.ErrType
		}
	}
	if e.Fn < 0 || e.Fn >= len(e.Sigs) {
		return api.ErrFunc
	}
	_, why := frames.Start(e.Classes, e.Sigs[e.Fn].Params, locals)
	return why
}

// goesOn is where an instruction goes on, with the error of chapter 8.2, item 5.
func goesOn(in api.Instr, size int) ([]int, api.Errno) {
	behind := in.At + code.Size(in.Op)
	var on []int
	switch in.Op {
	case api.OpJump:
		on = []int{in.A}
	case api.OpUnless:
		on = []int{min(behind, in.A), max(behind, in.A)}
	case api.OpReturn, api.OpTrap:
	default:
		on = []int{behind}
	}
	if (in.Op == api.OpJump || in.Op == api.OpUnless) && in.A >= size {
		return nil, api.ErrTarget
	}
	if in.Op != api.OpJump && in.Op != api.OpReturn && in.Op != api.OpTrap && behind == size {
		return nil, api.ErrOff
	}
	return slices.Compact(on), api.OK
}

// overlaps tells whether one of two instructions begins within the other one, behind its first byte.
func overlaps(a, b api.Instr) bool {
	last := func(in api.Instr) int { return in.At + code.Size(in.Op) - 1 }
	return a.At > b.At && a.At <= last(b) || b.At > a.At && b.At <= last(a)
}

// rounds is chapter 8.2, word by word, from frames that some addresses have, all of which are new.
func rounds(e api.Env, b []byte, has map[int]api.Frame) (int, api.Errno) {
	fresh, taken := map[int]struct{}{}, map[int]api.Instr{}
	for at := range has {
		fresh[at] = struct{}{}
	}
	for len(fresh) > 0 {
		a := 1 << 30
		for at := range fresh {
			a = min(a, at)
		}
		delete(fresh, a)
		if a == len(b) {
			return a, api.ErrOff
		}
		in, why := code.Decode(b, a)
		if why != api.OK {
			return a, why
		}
		for _, was := range taken {
			if overlaps(in, was) {
				return a, api.ErrOverlap
			}
		}
		taken[a] = in
		f, why := step.Apply(e, has[a], in)
		if why != api.OK {
			return a, why
		}
		on, why := goesOn(in, len(b))
		if why != api.OK {
			return a, why
		}
		for _, to := range on {
			had, is := has[to]
			if !is {
				has[to], fresh[to] = f, struct{}{}
				continue
			}
			m, why := frames.Merge(e.Classes, had, f)
			if why != api.OK {
				return to, why
			}
			if m != had {
				has[to], fresh[to] = m, struct{}{}
			}
		}
	}
	return 0, api.OK
}

// inferred is P8.2, word by word.
func inferred(e api.Env, locals int, b []byte) ([]api.Entry, int, api.Errno) {
	if why := may(e, locals); why != api.OK {
		return nil, 0, why
	}
	if len(b) > 4096 {
		return nil, 0, api.ErrLong
	}
	start, _ := frames.Start(e.Classes, e.Sigs[e.Fn].Params, locals)
	has := map[int]api.Frame{0: start}
	if at, why := rounds(e, b, has); why != api.OK {
		return nil, at, why
	}
	return listed(has), 0, api.OK
}

// listed is frames as entries, rising.
func listed(has map[int]api.Frame) []api.Entry {
	var all []api.Entry
	for at := range 4096 {
		if f, is := has[at]; is {
			all = append(all, api.Entry{At: at, Frame: f})
		}
	}
	return all
}

// emitted is P8.3, word by word.
func emitted(e api.Env, locals int, b []byte) ([]byte, int, api.Errno) {
	l, at, why := inferred(e, locals, b)
	if why != api.OK {
		return nil, at, why
	}
	has, said := map[int]api.Frame{}, map[int]api.Entry{}
	for _, x := range l {
		has[x.At] = x.Frame
	}
	for _, x := range l {
		in, _ := code.Decode(b, x.At)
		if in.Op == api.OpJump || in.Op == api.OpUnless {
			said[in.A] = api.Entry{At: in.A, Frame: has[in.A]}
		}
		if n := in.At + code.Size(in.Op); (in.Op == api.OpJump || in.Op == api.OpReturn || in.Op == api.OpTrap) && n < len(b) {
			f, is := has[n]
			said[n] = api.Entry{At: n, Dead: !is, Frame: f}
		}
	}
	c := api.Cert{Locals: locals}
	for at := range 4096 {
		if x, is := said[at]; is {
			c.Entries = append(c.Entries, x)
		}
	}
	p, why := cert.Encode(c)
	return p, 0, why
}
