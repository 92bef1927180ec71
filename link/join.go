package link

import (
	"slices"

	"proviso/api"
	"proviso/types"
)

// linker is parts being made one module, pass by pass.
type linker struct {
	parts   []api.Part
	known   []origin       // by class of the module
	joined  [][]int        // by part, by class: the number that it has now
	owners  []int          // by function of the module: its part
	numbers map[string]int // by name of a function: the number that it has now
	called  [][]int        // by part, by number in its code: the number that the function has now
	funcs   []api.Func     // of the module
}

// origin is where a class of the module came from first.
type origin struct{ part, class int }

func (k *linker) table(part int) []api.Class { return k.parts[part].Module.Classes }

func (k *linker) nameOf(part int) string { return k.parts[part].Module.Name }

// partOf is the name of the part from which a function of the module came.
func (k *linker) partOf(fn int) string { return k.nameOf(k.owners[fn]) }

// joinClasses gives each class of each part its number.
func (k *linker) joinClasses() error {
	for i, p := range k.parts {
		numbers := make([]int, len(p.Module.Classes))
		for c := range p.Module.Classes {
			at := k.find(p.Module.Classes[c].Name)
			switch {
			case at < len(k.known) && !k.areLike(k.known[at], origin{i, c}):
				return trouble(p.Module.Name, c, api.ErrClash)
			case at == api.MaxClasses:
				return trouble(p.Module.Name, c, api.ErrMany)
			case at == len(k.known):
				k.known = append(k.known, origin{i, c})
			}
			numbers[c] = at
		}
		k.joined = append(k.joined, numbers)
	}
	return nil
}

// class is one as it stands in its part.
func (k *linker) class(o origin) api.Class { return k.table(o.part)[o.class] }

// find is the number of the known class of a name; the next one, if there is none.
func (k *linker) find(name string) int {
	at := slices.IndexFunc(k.known, func(o origin) bool { return k.class(o).Name == name })
	if at < 0 {
		return len(k.known)
	}
	return at
}

// areLike tells whether two classes of one name are one.
func (k *linker) areLike(a, b origin) bool {
	return k.parent(a) == k.parent(b) && slices.EqualFunc(k.class(a).Fields, k.class(b).Fields, func(x, y api.Field) bool {
		return x.Name == y.Name && k.areOne(a.part, x.Type, b.part, y.Type)
	})
}

// parent is the name of a class's parent; the empty text, which is no name, if it has none.
func (k *linker) parent(o origin) string {
	if above := k.class(o).Parent; above >= 0 {
		return k.table(o.part)[above].Name
	}
	return ""
}

// areOne tells whether two types of two parts are one: their words are the same then, for no class has the word of another type.
func (k *linker) areOne(a int, s api.Type, b int, t api.Type) bool {
	return types.Print(k.table(a), s) == types.Print(k.table(b), t)
}

// turned is a type of a part as it is in the module.
func (k *linker) turned(part int, t api.Type) api.Type {
	if t < api.TClass {
		return t
	}
	return api.TClass + api.Type(k.joined[part][t-api.TClass])
}

// classes are those of the module.
func (k *linker) classes() []api.Class {
	var all []api.Class
	for _, o := range k.known {
		c := k.class(o)
		if c.Parent >= 0 {
			c.Parent = k.joined[o.part][c.Parent]
		}
		c.Fields = slices.Clone(c.Fields)
		for i, f := range c.Fields {
			c.Fields[i].Type = k.turned(o.part, f.Type)
		}
		all = append(all, c)
	}
	return all
}
