package infer

import (
	"slices"

	"proviso/api"
)

// Env is what a function of a module stands in.
func Env(m api.Module, fn int) (api.Env, bool) {
	if fn < 0 || fn >= len(m.Funcs) {
		return api.Env{}, false
	}
	return api.Env{Classes: copied(m.Classes, copyClass), Sigs: copied(m.Funcs, copySig), Fn: fn}, true
}

// Module is a module with its certificates; else which function is at fault, and where.
func Module(m api.Module) (api.Module, int, int, api.Errno) {
	var certs [][]byte
	e, _ := Env(m, 0)
	for fn, f := range m.Funcs {
		e.Fn = fn
		p, at, why := Emit(e, f.Locals, f.Code)
		if why != api.OK {
			return api.Module{}, fn, at, why
		}
		certs = append(certs, p)
	}
	return api.Module{Name: m.Name, Classes: copied(m.Classes, copyClass), Funcs: copied(m.Funcs, copyFunc), Certs: certs}, 0, 0, api.OK
}

// copied is a new list, made of an old one's parts; nil stays nil, and an empty one empty, as in slices.Clone.
func copied[T, U any](l []T, one func(T) U) []U {
	if l == nil {
		return nil
	}
	all := make([]U, len(l))
	for i, x := range l {
		all[i] = one(x)
	}
	return all
}

func copyClass(c api.Class) api.Class {
	c.Fields = slices.Clone(c.Fields)
	return c
}

func copySig(f api.Func) api.Sig {
	return api.Sig{Params: slices.Clone(f.Sig.Params), Result: f.Sig.Result}
}

func copyFunc(f api.Func) api.Func {
	f.Sig = copySig(f)
	f.Code = slices.Clone(f.Code)
	return f
}
