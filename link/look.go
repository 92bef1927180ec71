package link

import (
	"slices"

	"proviso/api"
	"proviso/infer"
	"proviso/module"
	"proviso/wire"
)

// look tells of the first part that can't be one.
func (k *linker) look() error {
	for i, p := range k.parts {
		name := p.Module.Name
		if at, why := module.Check(p.Module); why != api.OK {
			return trouble(name, at, why)
		}
		if slices.ContainsFunc(k.parts[:i], func(q api.Part) bool { return q.Module.Name == name }) {
			return trouble(name, 0, api.ErrTwice)
		}
		if len(p.Imports) > api.MaxImports {
			return trouble(name, api.MaxImports, api.ErrLong)
		}
		for n := range p.Imports {
			if why := checkImport(p, n); why != api.OK {
				return trouble(name, n, why)
			}
		}
	}
	return nil
}

func checkImport(p api.Part, n int) api.Errno {
	x := p.Imports[n]
	_, own := module.Entry(p.Module, x.Name)
	switch {
	case !wire.IsName(x.Name):
		return api.ErrName
	case own || slices.ContainsFunc(p.Imports[:n], func(y api.Import) bool { return y.Name == x.Name }):
		return api.ErrTwice
	}
	// Beside it nothing can be wrong: the classes may be, and there is one signature.
	return infer.May(api.Env{Classes: p.Module.Classes, Sigs: []api.Sig{x.Sig}}, api.MaxLocals)
}
