package link

import (
	"slices"

	"proviso/api"
	"proviso/code"
	"proviso/flow"
)

// countFuncs gives each function of each part its number.
func (k *linker) countFuncs() error {
	for i, p := range k.parts {
		for n, f := range p.Module.Funcs {
			if _, twice := k.numbers[f.Name]; twice { // another part's: a part has no name twice
				return trouble(p.Module.Name, n, api.ErrTwice)
			}
			if len(k.owners) == api.MaxFuncs {
				return trouble(p.Module.Name, n, api.ErrMany)
			}
			k.numbers[f.Name] = len(k.owners)
			k.owners = append(k.owners, i)
			f.Sig = k.turnedSig(i, f.Sig)
			k.funcs = append(k.funcs, f)
		}
	}
	return nil
}

// turnedSig is a signature of a part as it is in the module. Two of two parts are one just if they are the same then.
func (k *linker) turnedSig(part int, s api.Sig) api.Sig {
	s.Params = slices.Clone(s.Params)
	for i, t := range s.Params {
		s.Params[i] = k.turned(part, t)
	}
	s.Result = k.turned(part, s.Result)
	return s
}

// findImports knows whom a part's calls mean: its own functions, and behind these its imports.
func (k *linker) findImports() error {
	for i, p := range k.parts {
		var called []int
		for _, f := range p.Module.Funcs {
			called = append(called, k.numbers[f.Name])
		}
		for n, x := range p.Imports {
			fn, is := k.numbers[x.Name]
			if !is {
				return trouble(p.Module.Name, n, api.ErrImport)
			}
			if !sameSig(k.turnedSig(i, x.Sig), k.funcs[fn].Sig) {
				return trouble(p.Module.Name, n, api.ErrSig)
			}
			called = append(called, fn)
		}
		k.called = append(k.called, called)
	}
	return nil
}

func sameSig(a, b api.Sig) bool { return slices.Equal(a.Params, b.Params) && a.Result == b.Result }

// turnCode lets all code name functions and classes by the numbers that they have now.
func (k *linker) turnCode() error {
	for fn, f := range k.funcs {
		l, at, why := flow.Scan(f.Code)
		if why != api.OK {
			return trouble(k.partOf(fn), at, why)
		}
		for i, in := range l {
			if l[i].A, why = k.operand(k.owners[fn], in); why != api.OK {
				return trouble(k.partOf(fn), in.At, why)
			}
		}
		k.funcs[fn].Code, _, _ = code.All(l) // as many bytes as there were
	}
	return nil
}

// operand is the A that an instruction of a part's code has in the module.
func (k *linker) operand(part int, in api.Instr) (int, api.Errno) {
	switch in.Op {
	case api.OpCall:
		return now(k.called[part], in.A, api.ErrFunc)
	case api.OpNew, api.OpGet, api.OpPut, api.OpCast, api.OpTest:
		return now(k.joined[part], in.A, api.ErrMember)
	}
	return in.A, api.OK
}

// now is the new number of an old one; else why there is none.
func now(numbers []int, old int, why api.Errno) (int, api.Errno) {
	if old >= len(numbers) {
		return 0, why
	}
	return numbers[old], api.OK
}
