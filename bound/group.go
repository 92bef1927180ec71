package bound

import (
	"slices"

	"proviso/api"
	"proviso/types"
)

// group is the functions that belong to one.
type group struct {
	classes []api.Class
	fns     []int
	bodies  map[int]body       // by function
	known   map[int]api.Bounds // by function: what is reckoned already
}

// groupOf gathers a function's group; else it tells the least function of it that infer refuses, and why.
func groupOf(m api.Module, fn int) (*group, int, api.Errno) {
	g := &group{classes: m.Classes, bodies: map[int]body{}, known: map[int]api.Bounds{}}
	least, fault := len(m.Funcs), api.OK
	g.fns = comeTo([]int{fn}, func(n int) []int {
		b, _, why := look(m, n)
		if why != api.OK && n < least {
			least, fault = n, why
		}
		g.bodies[n] = b
		return b.calls()
	})
	if fault != api.OK {
		return nil, least, fault
	}
	return g, 0, api.OK
}

func (g *group) calls(fn int) []int { return g.bodies[fn].calls() }

// bounds are those of one of its functions; without any, if one calls itself.
func (g *group) bounds(fn int) api.Bounds {
	fns, ends := order(g.fns, g.calls)
	if !ends {
		return api.Bounds{}
	}
	for _, n := range slices.Backward(fns) { // what is called is known then
		g.known[n] = g.reckon(n)
	}
	return g.known[fn]
}

// reckon is the bounds of a function, those of all that it calls being known.
func (g *group) reckon(fn int) api.Bounds {
	b := g.bodies[fn]
	depth, slots := 0, 0
	for _, n := range b.calls() {
		depth = max(depth, g.known[n].Depth.Most)
		slots = max(slots, g.known[n].Slots.Most)
	}
	return api.Bounds{
		Depth: api.Reckoned{Most: 1 + depth, Is: true},
		Slots: api.Reckoned{Most: b.locals + b.height + slots, Is: true},
		Steps: g.most(b, g.steps()),
		Cells: g.most(b, g.cells()),
	}
}

// measure is what is summed up over a function's ways.
type measure struct {
	limit  int
	own    func(in api.Instr) api.Reckoned  // what an instruction counts by itself
	called func(of api.Bounds) api.Reckoned // what a call counts beside
}

func (g *group) steps() measure {
	return measure{
		limit:  api.MaxFuel,
		own:    func(api.Instr) api.Reckoned { return api.Reckoned{Most: 1, Is: true} },
		called: func(of api.Bounds) api.Reckoned { return of.Steps },
	}
}

func (g *group) cells() measure {
	return measure{
		limit:  api.MaxRoom,
		own:    g.taken,
		called: func(of api.Bounds) api.Reckoned { return of.Cells },
	}
}

// taken is how many cells an instruction takes; nothing bounds those of a make.
func (g *group) taken(in api.Instr) api.Reckoned {
	switch in.Op {
	case api.OpMake:
		return api.Reckoned{}
	case api.OpNew:
		return api.Reckoned{Most: 1 + len(types.Fields(g.classes, in.A)), Is: true}
	}
	return api.Reckoned{Is: true}
}

// most is the greatest sum over a way through a function; none, where it loops, where something on a way has none, or above the limit. Each reached address is on a way from the first one to an end: so whatever is above the limit from there on, be it of a function that is called, brings the whole above it.
func (g *group) most(b body, x measure) api.Reckoned {
	ats, ends := b.order()
	if !ends {
		return api.Reckoned{}
	}
	rest := map[int]int{} // by address: the greatest sum from there on
	for _, at := range slices.Backward(ats) {
		sum, is := g.count(b.ins[at], x)
		if !is {
			return api.Reckoned{}
		}
		on := 0
		for _, to := range b.next(at) {
			on = max(on, rest[to])
		}
		if rest[at] = sum + on; rest[at] > x.limit {
			return api.Reckoned{}
		}
	}
	return api.Reckoned{Most: rest[0], Is: true}
}

// count is what an instruction counts in all; false, if nothing bounds it.
func (g *group) count(in api.Instr, x measure) (int, bool) {
	own := x.own(in)
	if in.Op != api.OpCall {
		return own.Most, own.Is
	}
	beside := x.called(g.known[in.A])
	return own.Most + beside.Most, own.Is && beside.Is
}
