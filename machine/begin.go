package machine

import (
	"slices"

	"proviso/api"
	"proviso/heap"
	"proviso/meaning"
	"proviso/step"
	"proviso/types"
)

// begin is a run ahead of its first step; else why there is none.
func begin(m api.Module, entry int, args []int, fuel, room int) (run, api.Errno) {
	if !mayRun(m) || fuel < 0 || fuel > api.MaxFuel {
		return run{}, api.ErrArg
	}
	objects, why := heap.New(m.Classes, room)
	if why != api.OK {
		return run{}, api.ErrArg
	}
	if entry < 0 || entry >= len(m.Funcs) {
		return run{}, api.ErrFunc
	}
	f := m.Funcs[entry]
	if !meaning.Admits(f.Sig, args) {
		return run{}, api.ErrArgs
	}
	first := call{fn: entry, locals: f.Locals}
	for i, t := range f.Sig.Params {
		first.slots[i] = value{kindOf(t), args[i]}
	}
	return run{
		classes: m.Classes,
		fields:  allFields(m.Classes),
		funcs:   m.Funcs,
		objects: objects,
		calls:   []call{first},
		came:    api.Outcome{Err: api.ErrFuel},
	}, api.OK
}

// mayRun tells whether the functions of a module stand in an environment that can be, and are no greater than one may be.
func mayRun(m api.Module) bool {
	e := api.Env{Classes: m.Classes}
	for _, f := range m.Funcs {
		if f.Locals < len(f.Sig.Params) || f.Locals > api.MaxLocals || len(f.Code) > api.MaxCode {
			return false
		}
		e.Sigs = append(e.Sigs, f.Sig)
	}
	_, why := step.Takes(e, api.Instr{Op: api.OpNop}) // of a nop the environment alone can be wrong
	return why == api.OK
}

func allFields(l []api.Class) [][]api.Field {
	var all [][]api.Field
	for c := range l {
		all = append(all, types.Fields(l, c))
	}
	return all
}

// keepNothing lets a run go on that outlasts its call: what was handed in may be another one by then.
func (r *run) keepNothing() {
	r.classes = slices.Clone(r.classes)
	for c := range r.classes {
		r.classes[c].Fields = slices.Clone(r.classes[c].Fields)
	}
	r.funcs = slices.Clone(r.funcs)
	for i := range r.funcs {
		f := &r.funcs[i]
		f.Sig.Params, f.Code = slices.Clone(f.Sig.Params), slices.Clone(f.Code)
	}
}
