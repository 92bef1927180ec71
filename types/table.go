package types

import (
	"slices"

	"proviso/api"
	"proviso/wire"
)

// Check tells whether a table of classes may be: else which one is at fault.
func Check(l []api.Class) (int, api.Errno) {
	for c := range l {
		if e := checkClass(l, c); e != api.OK {
			return c, e
		}
	}
	return 0, api.OK
}

// checkClass leans on the classes ahead: they are right already.
func checkClass(l []api.Class, c int) api.Errno {
	name, parent := l[c].Name, l[c].Parent
	switch {
	case c >= api.MaxClasses:
		return api.ErrLong
	case !wire.IsName(name) || isWord(name):
		return api.ErrName
	case hasName(l[:c], name):
		return api.ErrTwice
	case parent < -1 || parent >= c:
		return api.ErrParent
	}
	return checkFields(l, parent, l[c].Fields)
}

func hasName(l []api.Class, name string) bool {
	return slices.ContainsFunc(l, func(c api.Class) bool { return c.Name == name })
}

// checkFields holds own names in a map: a class that can't be may have fields without end, and all are looked at ahead of their count. Those above are few, and right already.
func checkFields(l []api.Class, parent int, own []api.Field) api.Errno {
	ahead := make(map[string]int, min(len(own), api.MaxFields))
	for i, f := range own {
		if !wire.IsName(f.Name) {
			return api.ErrName
		}
		if _, twice := ahead[f.Name]; twice || lineHas(l, parent, f.Name) {
			return api.ErrTwice
		}
		if !isStored(l, f.Type) {
			return api.ErrType
		}
		ahead[f.Name] = i
	}
	if len(own) > api.MaxFields-lineSize(l, parent) {
		return api.ErrLong
	}
	return api.OK
}

// lineHas tells whether a class, or one above it, has a field of that name.
func lineHas(l []api.Class, c int, name string) bool {
	for k := range line(l, c) {
		if slices.ContainsFunc(l[k].Fields, func(f api.Field) bool { return f.Name == name }) {
			return true
		}
	}
	return false
}

// lineSize is how many fields a class has in all.
func lineSize(l []api.Class, c int) int {
	n := 0
	for k := range line(l, c) {
		n += len(l[k].Fields)
	}
	return n
}

func isStored(l []api.Class, t api.Type) bool {
	return Valid(l, t) && t != api.TTop && t != api.TNull
}

// Fields is a class's fields, its parents' ahead.
func Fields(l []api.Class, c int) []api.Field {
	classes := slices.Collect(line(l, c))
	slices.Reverse(classes)
	var all []api.Field
	for _, k := range classes {
		all = append(all, l[k].Fields...)
	}
	return all
}

// Find is the field of a name: its number and its type.
func Find(l []api.Class, c int, name string) (int, api.Type, bool) {
	for i, f := range Fields(l, c) {
		if f.Name == name {
			return i, f.Type, true
		}
	}
	return 0, api.TTop, false
}
