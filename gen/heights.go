package gen

import (
	"proviso/api"
	"proviso/code"
	"proviso/fault"
	"proviso/step"
)

// fits goes through code in its order, and gives up where a function's locals and what lies on its stack are more than there are slots.
func fits(e api.Env, locals int, l []api.Instr) {
	g := gains{e, map[api.Instr]int{}}
	led := map[int]int{} // heights that jumps lead to, by address
	height := 0
	for _, in := range l {
		if h, is := led[in.At]; is {
			height = h
		}
		height += g.of(in)
		if locals+height > api.MaxSlots {
			fault.GiveUp(in.At, api.ErrOver)
		}
		if code.Jumps(in.Op) {
			led[in.A] = height
		}
	}
}

// gains are by how much instructions make a stack higher. Each is kept, since step looks at the whole environment whenever it is asked.
type gains struct {
	env   api.Env
	known map[api.Instr]int
}

func (g gains) of(in api.Instr) int {
	in.At = 0
	if in.Op == api.OpInt || code.Jumps(in.Op) {
		in.A = 0 // numbers and addresses play no part, and there are many
	}
	n, is := g.known[in]
	if !is {
		n = g.asked(in)
		g.known[in] = n
	}
	return n
}

// asked leans on check: all that an instruction names is there, so step has no error to tell.
func (g gains) asked(in api.Instr) int {
	takes, _ := step.Takes(g.env, in)
	gives, _ := step.Gives(g.env, in)
	return gives - takes
}
