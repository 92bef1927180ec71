package meaning

import (
	"proviso/api"
	"proviso/heap"
)

// run is a run on its way. It goes over the tree by pointers: calls lie deep within one another, and long rows of marks in each.
type run struct {
	funs    []api.Fun
	classes []api.Class
	objects *heap.Heap
	rules   [api.NumEx]rule
	fuel    int
	calls   int   // that are begun and not ended
	vars    []int // of the innermost call
	given   int   // what the last return told
	out     api.Outcome
}

// whole calls the entry: what came of it, of a run that gave up too.
func (r *run) whole(entry int, args []int) (o api.Outcome) {
	defer func() {
		if what := recover(); what != nil {
			r.out.Err, r.out.Trap = reason(what)
		}
		r.out.Cells = r.objects.Used()
		o = r.out
	}()
	r.out.Result = r.call(entry, args)
	return r.out
}

// stop is what a run that gives up panics with.
type stop struct {
	why  api.Errno
	trap int
}

// reason is why a run gave up; one that did so without a reason of ours is told all the same, for no call may panic.
func reason(what any) (api.Errno, int) {
	if s, is := what.(stop); is {
		return s.why, s.trap
	}
	return api.ErrArg, 0
}

func (r *run) trap(n int) { panic(stop{api.ErrTrap, n}) }

// use is told when a rule begins.
func (r *run) use() {
	if r.out.Steps == r.fuel {
		panic(stop{why: api.ErrFuel})
	}
	r.out.Steps++
}

// must traps the run where the heap has refused. It tells ErrRange of a row's length alone: no other number here is out of range.
func (r *run) must(why api.Errno) {
	switch why {
	case api.ErrNull:
		r.trap(api.TrapNull)
	case api.ErrIndex:
		r.trap(api.TrapIndex)
	case api.ErrRange:
		r.trap(api.TrapSize)
	case api.ErrFull:
		r.trap(api.TrapRoom)
	}
}

// call is what a function gives, called with values.
func (r *run) call(fn int, args []int) int {
	if r.calls == api.MaxDepth {
		r.trap(api.TrapDepth)
	}
	around := r.vars
	r.vars = make([]int, r.funs[fn].Locals)
	copy(r.vars, args)
	r.calls++
	if r.block(r.funs[fn].Body) != back { // what was given last, a call within it was given
		r.given = 0
	}
	r.calls--
	r.vars = around
	return r.given
}
