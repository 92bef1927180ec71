package machine

import (
	"slices"

	"proviso/api"
	"proviso/code"
	"proviso/heap"
	"proviso/types"
)

// runner is a run of one of the two kinds, guarded or bare: what sets them apart is how they do a step.
type runner interface {
	step()
	goes() bool
	hasEnded() bool
	end(why api.Errno)
	outcome() api.Outcome
	where() (fn, at, depth int)
}

// goOn does so many steps, or as many as there are. A bare run of code that nobody has checked may do what can't be done: it is stuck then, for no call may panic.
func goOn(r runner, steps int) {
	defer func() {
		if recover() != nil {
			r.end(api.ErrStuck)
		}
	}()
	for range steps {
		if !r.goes() {
			break
		}
		r.step()
	}
}

// whole is what comes of a run that has not begun, with so much fuel.
func whole(r runner, fuel int) api.Outcome {
	goOn(r, fuel)
	return r.outcome()
}

// run is what guarded and bare share: where a run is, its objects, what has come of it.
type run struct {
	classes []api.Class
	fields  [][]api.Field // by class, all that it has
	funcs   []api.Func
	objects *heap.Heap
	calls   []call      // that are begun and not ended, the innermost last; none of a run that has ended
	came    api.Outcome // but for Cells, which the objects tell
}

// call is a function that is begun and not ended: its slots are its variables, and behind them its stack, from the bottom.
type call struct {
	fn, at         int
	locals, height int
	slots          [api.MaxSlots]value
}

// value is a number, and what it is.
type value struct {
	kind kind
	n    int
}

type kind byte

const (
	nothing kind = iota
	number
	truth
	reference
)

// kindOf is what the values of a stored type are.
func kindOf(t api.Type) kind {
	switch t {
	case api.TInt:
		return number
	case api.TBool:
		return truth
	}
	return reference
}

func (c *call) push(v value) {
	c.slots[c.locals+c.height] = v
	c.height++
}

func (c *call) pop() value {
	c.height--
	return c.slots[c.locals+c.height]
}

// top is the upper n of the stack, the last one from the top.
func (c *call) top(n int) []value {
	end := c.locals + c.height
	return c.slots[end-n : end]
}

func (c *call) isFull() bool { return c.locals+c.height == api.MaxSlots }

// inner is the innermost call.
func (r *run) inner() *call { return &r.calls[len(r.calls)-1] }

// fetch begins a step: the instruction at the address, if there is one.
func (r *run) fetch() (api.Instr, bool) {
	r.came.Steps++
	c := r.inner()
	in, why := code.Decode(r.funcs[c.fn].Code, c.at)
	return in, why == api.OK
}

func (r *run) hasEnded() bool { return len(r.calls) == 0 }

// goes tells whether there is another step to be done.
func (r *run) goes() bool { return !r.hasEnded() && r.came.Steps < api.MaxFuel }

func (r *run) end(why api.Errno) {
	r.calls = nil
	r.came.Err = why
}

func (r *run) trap(n int) {
	r.end(api.ErrTrap)
	r.came.Trap = n
}

func (r *run) outcome() api.Outcome {
	o := r.came
	o.Told = slices.Clone(o.Told)
	o.Cells = r.objects.Used()
	return o
}

func (r *run) where() (fn, at, depth int) {
	if r.hasEnded() {
		return 0, 0, 0
	}
	c := r.inner()
	return c.fn, c.at, len(r.calls)
}

// isOf tells whether a reference is to a record of a class, or of one below it; a row, and the reference to nothing, have no class.
func (r *run) isOf(ref, class int) bool {
	c, is := r.objects.Class(ref)
	return is && types.Sub(r.classes, classType(c), classType(class))
}

func classType(c int) api.Type { return api.TClass + api.Type(c) }
