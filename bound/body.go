package bound

import (
	"slices"

	"proviso/api"
	"proviso/code"
	"proviso/flow"
	"proviso/infer"
)

// body is what is known of a function; the zero one of a function that infer refuses.
type body struct {
	locals, height int
	reached        []int             // addresses, rising
	ins            map[int]api.Instr // by these
}

// look asks infer of a function; else it tells infer's place and error.
func look(m api.Module, fn int) (body, int, api.Errno) {
	e, is := infer.Env(m, fn)
	if !is {
		return body{}, 0, api.ErrArg
	}
	f := m.Funcs[fn]
	l, at, why := infer.Infer(e, f.Locals, f.Code)
	if why != api.OK {
		return body{}, at, why
	}
	b := body{locals: f.Locals, ins: map[int]api.Instr{}}
	for _, x := range l {
		b.height = max(b.height, x.Frame.Height)
		b.reached = append(b.reached, x.At)
		b.ins[x.At], _ = code.Decode(f.Code, x.At) // it was decoded when it was come to
	}
	return b, 0, api.OK
}

// calls are the functions that it calls, rising.
func (b body) calls() []int {
	var all []int
	for _, at := range b.reached {
		if in := b.ins[at]; in.Op == api.OpCall {
			all = append(all, in.A)
		}
	}
	slices.Sort(all)
	return slices.Compact(all)
}

// next is where it goes on from an address.
func (b body) next(at int) []int { return flow.Next(b.ins[at]) }

// order is its addresses, each ahead of those where it goes on; false, if it loops.
func (b body) order() ([]int, bool) { return order(b.reached, b.next) }
