package bound_test

import (
	"slices"

	"proviso/api"
	"proviso/code"
	"proviso/flow"
	"proviso/infer"
)

// telling is the chapter over again, by its words, of a module.
type telling struct {
	m      api.Module
	known  []inferred    // by function
	called map[int][]int // by function: what it calls
}

// inferred is what infer.Infer tells of a function.
type inferred struct {
	l   []api.Entry
	at  int
	why api.Errno
}

func toldOf(m api.Module) *telling {
	w := &telling{m: m, called: map[int][]int{}}
	for fn, f := range m.Funcs {
		e, _ := infer.Env(m, fn)
		var x inferred
		x.l, x.at, x.why = infer.Infer(e, f.Locals, f.Code)
		w.known = append(w.known, x)
	}
	return w
}

func (w *telling) is(fn int) bool { return fn >= 0 && fn < len(w.m.Funcs) }

// answer is a function's result beside OK; a zero one, the place and the error, if there are none such.
func (w *telling) answer(fn int, zero any, result func() any) []any {
	switch {
	case !w.is(fn):
		return []any{zero, 0, api.ErrArg}
	case w.known[fn].why != api.OK:
		return []any{zero, w.known[fn].at, w.known[fn].why}
	}
	return []any{result(), 0, api.OK}
}

// instr is the instruction at an address of a function.
func (w *telling) instr(fn, at int) api.Instr {
	in, _ := code.Decode(w.m.Funcs[fn].Code, at)
	return in
}

// has tells whether one of a function's reached instructions is of a kind.
func (w *telling) has(fn int, is func(in api.Instr) bool) bool {
	return slices.ContainsFunc(w.known[fn].l, func(x api.Entry) bool { return is(w.instr(fn, x.At)) })
}

// callees are none of a function that is refused.
func (w *telling) callees(fn int) []int {
	all, is := w.called[fn]
	for n := 0; !is && n < 64; n++ {
		if w.has(fn, func(in api.Instr) bool { return in.Op == api.OpCall && in.A == n }) {
			all = append(all, n)
		}
	}
	w.called[fn] = all
	return all
}

func (w *telling) calls(fn int) []any {
	return w.answer(fn, []int(nil), func() any { return w.callees(fn) })
}

func (w *telling) height(fn int) []any {
	return w.answer(fn, 0, func() any {
		n := 0
		for _, x := range w.known[fn].l {
			n = max(n, x.Frame.Height)
		}
		return n
	})
}

// behind is all that is come to from a number by one step or more.
func behind(n int, follow func(n int) []int) map[int]int {
	all := map[int]int{}
	var spread func(n int)
	spread = func(n int) {
		for _, to := range follow(n) {
			if all[to] == 0 {
				all[to] = 1
				spread(to)
			}
		}
	}
	spread(n)
	return all
}

// comesBack goes every way from address 0 on: whether one comes to an address that it has come from.
func (w *telling) comesBack(fn int) bool {
	const under, done = 1, 2
	state := map[int]int{}
	var back func(at int) bool
	back = func(at int) bool {
		if state[at] != 0 {
			return state[at] == under
		}
		state[at] = under
		if slices.ContainsFunc(flow.Next(w.instr(fn, at)), back) {
			return true
		}
		state[at] = done
		return false
	}
	return back(0)
}

func (w *telling) loops(fn int) []any {
	return w.answer(fn, false, func() any { return w.comesBack(fn) })
}

func (w *telling) isRing(fn int) bool { return behind(fn, w.callees)[fn] == 1 }

func (w *telling) rings() []any {
	var all []int
	for fn, x := range w.known {
		if x.why != api.OK {
			return []any{[]int(nil), fn, x.why}
		}
		if w.isRing(fn) {
			all = append(all, fn)
		}
	}
	return []any{all, 0, api.OK}
}

func (w *telling) of(fn int) []any {
	if !w.is(fn) {
		return []any{api.Bounds{}, 0, api.ErrArg}
	}
	belong := behind(fn, w.callees)
	belong[fn] = 1
	deep, ends, rows := true, true, false
	for n, x := range w.known {
		if belong[n] == 1 && x.why != api.OK {
			return []any{api.Bounds{}, n, x.why}
		}
		if belong[n] == 1 {
			deep = deep && !w.isRing(n)
			ends = ends && !w.comesBack(n)
			rows = rows || w.has(n, func(in api.Instr) bool { return in.Op == api.OpMake })
		}
	}
	var b api.Bounds
	if deep {
		b.Depth = api.Reckoned{Most: w.deepest(fn, func(int) int { return 1 }, map[int]int{}), Is: true}
		b.Slots = api.Reckoned{Most: w.deepest(fn, w.slots, map[int]int{}), Is: true}
	}
	if deep && ends {
		b.Steps = atMost(w.greatest(fn, func(api.Instr) int { return 1 }, map[int]int{}), 1<<20)
	}
	if deep && ends && !rows {
		b.Cells = atMost(w.greatest(fn, w.cells, map[int]int{}), 4096)
	}
	return []any{b, 0, api.OK}
}

func atMost(n, limit int) api.Reckoned {
	if n > limit {
		return api.Reckoned{}
	}
	return api.Reckoned{Most: n, Is: true}
}

// deepest is what a function has of its own, and the greatest such of what it calls; known is by function.
func (w *telling) deepest(fn int, own func(fn int) int, known map[int]int) int {
	if n, is := known[fn]; is {
		return n
	}
	n := 0
	for _, x := range w.callees(fn) {
		n = max(n, w.deepest(x, own, known))
	}
	known[fn] = own(fn) + n
	return known[fn]
}

func (w *telling) slots(fn int) int { return w.m.Funcs[fn].Locals + w.height(fn)[0].(int) }

func (w *telling) cells(in api.Instr) int {
	if in.Op != api.OpNew {
		return 0
	}
	n := 1
	for c := in.A; c >= 0; c = w.m.Classes[c].Parent {
		n += len(w.m.Classes[c].Fields)
	}
	return n
}

// greatest is the greatest sum over a function's ways, each instruction counting own, and a call that of what it calls beside; known is by function.
func (w *telling) greatest(fn int, own func(in api.Instr) int, known map[int]int) int {
	if n, is := known[fn]; is {
		return n
	}
	from := map[int]int{}
	var way func(at int) int
	way = func(at int) int {
		if n, is := from[at]; is {
			return n
		}
		in, n := w.instr(fn, at), 0
		for _, to := range flow.Next(in) {
			n = max(n, way(to))
		}
		n += own(in)
		if in.Op == api.OpCall {
			n += w.greatest(in.A, own, known)
		}
		from[at] = min(n, 1<<40) // no sum of so many is told
		return from[at]
	}
	known[fn] = way(0)
	return known[fn]
}
