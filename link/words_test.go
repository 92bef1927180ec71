package link_test

import (
	"slices"
	"strings"

	"proviso/api"
	"proviso/code"
	"proviso/flow"
	"proviso/infer"
	"proviso/module"
)

// told is P18.1 over again, by its words: things are known by their names.
func told(name string, l []api.Part) (api.Module, api.Trouble) {
	refused := func(in string, at int, why api.Errno) (api.Module, api.Trouble) {
		return api.Module{}, api.Trouble{In: in, Fault: api.Fault{At: at, Why: why}}
	}
	if !isName(name) {
		return refused(name, 0, api.ErrName)
	}
	if len(l) > 64 {
		return refused(name, 0, api.ErrLong)
	}
	for _, rule := range []func(l []api.Part) api.Trouble{partsMayBe, classesAreOne, namesAreOnce, importsAreThere, codeIsRead} {
		if x := rule(l); x.Fault.Why != api.OK {
			return api.Module{}, x
		}
	}
	m := joined(name, l)
	n, fn, at, why := infer.Module(m)
	if why != api.OK {
		return refused(homes(l)[fn].Module.Name, at, why)
	}
	return n, api.Trouble{}
}

func isName(s string) bool {
	const letters = "abcdefghijklmnopqrstuvwxyzABCDEFGHIJKLMNOPQRSTUVWXYZ"
	return len(s) >= 1 && len(s) <= 24 && strings.Contains(letters, s[:1]) && strings.Trim(s, letters+"0123456789_") == ""
}

func in(p api.Part, at int, why api.Errno) api.Trouble {
	return api.Trouble{In: p.Module.Name, Fault: api.Fault{At: at, Why: why}}
}

// word is what a type is called; of a class its name, with a mark that no other type's word has.
func word(p api.Part, t api.Type) string {
	if t < api.TClass {
		return []string{"top", "int", "bool", "null", "ints", "any", "", "", "", "", "", "", "", "", "", ""}[t]
	}
	if c := int(t - api.TClass); c < len(p.Module.Classes) {
		return "class " + p.Module.Classes[c].Name
	}
	return ""
}

func words(p api.Part, s api.Sig) string {
	text := ""
	for _, t := range s.Params {
		text += word(p, t) + ", "
	}
	return text + "gives " + word(p, s.Result)
}

func partsMayBe(l []api.Part) api.Trouble {
	for i, p := range l {
		if at, why := module.Check(p.Module); why != api.OK {
			return in(p, at, why)
		}
		for _, q := range l[:i] {
			if q.Module.Name == p.Module.Name {
				return in(p, 0, api.ErrTwice)
			}
		}
		if len(p.Imports) > 64 {
			return in(p, 64, api.ErrLong)
		}
		seen := map[string]int{}
		for _, f := range p.Module.Funcs {
			seen[f.Name]++
		}
		for n, x := range p.Imports {
			if !isName(x.Name) {
				return in(p, n, api.ErrName)
			}
			if seen[x.Name]++; seen[x.Name] > 1 {
				return in(p, n, api.ErrTwice)
			}
			if len(x.Sig.Params) > 8 {
				return in(p, n, api.ErrLong)
			}
			for _, t := range x.Sig.Params {
				if w := word(p, t); w == "" || w == "top" || w == "null" {
					return in(p, n, api.ErrType)
				}
			}
			if w := word(p, x.Sig.Result); w == "" || w == "null" {
				return in(p, n, api.ErrType)
			}
		}
	}
	return api.Trouble{}
}

// form is all that two classes of one name must have alike.
func form(p api.Part, c api.Class) string {
	text := "none: "
	if c.Parent >= 0 {
		text = p.Module.Classes[c.Parent].Name + ": "
	}
	for _, f := range c.Fields {
		text += f.Name + " " + word(p, f.Type) + ", "
	}
	return text
}

func classesAreOne(l []api.Part) api.Trouble {
	forms := map[string]string{}
	for _, p := range l {
		for n, c := range p.Module.Classes {
			has, is := forms[c.Name]
			if is && has != form(p, c) {
				return in(p, n, api.ErrClash)
			}
			if !is && len(forms) == 32 {
				return in(p, n, api.ErrMany)
			}
			forms[c.Name] = form(p, c)
		}
	}
	return api.Trouble{}
}

func namesAreOnce(l []api.Part) api.Trouble {
	seen := map[string]bool{}
	for _, p := range l {
		for n, f := range p.Module.Funcs {
			if seen[f.Name] {
				return in(p, n, api.ErrTwice)
			}
			if len(seen) == 64 {
				return in(p, n, api.ErrMany)
			}
			seen[f.Name] = true
		}
	}
	return api.Trouble{}
}

func importsAreThere(l []api.Part) api.Trouble {
	has := map[string]string{}
	for _, p := range l {
		for _, f := range p.Module.Funcs {
			has[f.Name] = words(p, f.Sig)
		}
	}
	for _, p := range l {
		for n, x := range p.Imports {
			if _, is := has[x.Name]; !is {
				return in(p, n, api.ErrImport)
			}
			if has[x.Name] != words(p, x.Sig) {
				return in(p, n, api.ErrSig)
			}
		}
	}
	return api.Trouble{}
}

// calls are the names of the functions that a part's code may call, by their numbers.
func calls(p api.Part) []string {
	var l []string
	for _, f := range p.Module.Funcs {
		l = append(l, f.Name)
	}
	for _, x := range p.Imports {
		l = append(l, x.Name)
	}
	return l
}

func classNames(l []api.Class) []string {
	var all []string
	for _, c := range l {
		all = append(all, c.Name)
	}
	return all
}

func namesClass(op byte) bool {
	return op == api.OpNew || op == api.OpGet || op == api.OpPut || op == api.OpCast || op == api.OpTest
}

func codeIsRead(l []api.Part) api.Trouble {
	for _, p := range l {
		for _, f := range p.Module.Funcs {
			ins, at, why := flow.Scan(f.Code)
			if why != api.OK {
				return in(p, at, why)
			}
			for _, x := range ins {
				if x.Op == api.OpCall && x.A >= len(p.Module.Funcs)+len(p.Imports) {
					return in(p, x.At, api.ErrFunc)
				}
				if namesClass(x.Op) && x.A >= len(p.Module.Classes) {
					return in(p, x.At, api.ErrMember)
				}
			}
		}
	}
	return api.Trouble{}
}

// homes are the parts of all functions, in their order.
func homes(l []api.Part) []api.Part {
	var all []api.Part
	for _, p := range l {
		for range p.Module.Funcs {
			all = append(all, p)
		}
	}
	return all
}

// joined is the module of parts that are all well.
func joined(name string, l []api.Part) api.Module {
	m := api.Module{Name: name}
	var funcs []string
	for _, p := range l {
		for _, c := range p.Module.Classes {
			if !slices.Contains(classNames(m.Classes), c.Name) {
				m.Classes = append(m.Classes, api.Class{Name: c.Name})
			}
		}
		for _, f := range p.Module.Funcs {
			funcs = append(funcs, f.Name)
		}
	}
	names := classNames(m.Classes)
	now := func(p api.Part, t api.Type) api.Type {
		if c, is := strings.CutPrefix(word(p, t), "class "); is {
			return api.TClass + api.Type(slices.Index(names, c))
		}
		return t
	}
	for _, p := range l {
		for _, c := range p.Module.Classes {
			k := api.Class{Name: c.Name, Parent: -1}
			if c.Parent >= 0 {
				k.Parent = slices.Index(names, p.Module.Classes[c.Parent].Name)
			}
			for _, f := range c.Fields {
				k.Fields = append(k.Fields, api.Field{Name: f.Name, Type: now(p, f.Type)})
			}
			m.Classes[slices.Index(names, c.Name)] = k
		}
		for _, f := range p.Module.Funcs {
			g := api.Func{Name: f.Name, Locals: f.Locals, Code: slices.Clone(f.Code)}
			for _, t := range f.Sig.Params {
				g.Sig.Params = append(g.Sig.Params, now(p, t))
			}
			g.Sig.Result = now(p, f.Sig.Result)
			for at := 0; at < len(f.Code); at += code.Size(f.Code[at]) {
				if op := f.Code[at]; op == api.OpCall {
					g.Code[at+1] = byte(slices.Index(funcs, calls(p)[f.Code[at+1]]))
				} else if namesClass(op) {
					g.Code[at+1] = byte(slices.Index(names, p.Module.Classes[f.Code[at+1]].Name))
				}
			}
			m.Funcs = append(m.Funcs, g)
		}
	}
	return m
}
