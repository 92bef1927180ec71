package types

import (
	"slices"

	"proviso/api"
	"proviso/wire"
)

// Check tells whether a table of classes may be: else which one is at fault.
func Check(l []api.Class) (int, api.Errno) {
	for c := range l {
		if e := checkClass(l, c); e != api.OK {
			return c, e
		}
	}
	return 0, api.OK
}

// checkClass leans on the classes ahead: they are right already.
func checkClass(l []api.Class, c int) api.Errno {
	name, parent := l[c].Name, l[c].Parent
	switch {
	case c >= api.MaxClasses:
		return api.ErrLong
	case !wire.IsName(name) || isWord(name):
		return api.ErrName
	case hasName(l[:c], name):
		return api.ErrTwice
	case parent < -1 || parent >= c:
		return api.ErrParent
	}
	return checkFields(l, Fields(l, parent), l[c].Fields)
}

func hasName(l []api.Class, name string) bool {
	return slices.ContainsFunc(l, func(c api.Class) bool { return c.Name == name })
}

// checkFields holds names in a map: a class that can't be may have fields without end, and all are looked at ahead of their count.
func checkFields(l []api.Class, above, own []api.Field) api.Errno {
	taken := map[string]int{}
	for i, f := range above {
		taken[f.Name] = i
	}
	for i, f := range own {
		if !wire.IsName(f.Name) {
			return api.ErrName
		}
		if _, twice := taken[f.Name]; twice {
			return api.ErrTwice
		}
		if !isStored(l, f.Type) {
			return api.ErrType
		}
		taken[f.Name] = len(above) + i
	}
	if len(above)+len(own) > api.MaxFields {
		return api.ErrLong
	}
	return api.OK
}

func isStored(l []api.Class, t api.Type) bool {
	return Valid(l, t) && t != api.TTop && t != api.TNull
}

// Fields is a class's fields, its parents' ahead.
func Fields(l []api.Class, c int) []api.Field {
	classes := slices.Collect(line(l, c))
	slices.Reverse(classes)
	var all []api.Field
	for _, k := range classes {
		all = append(all, l[k].Fields...)
	}
	return all
}

// Find is the field of a name: its number and its type.
func Find(l []api.Class, c int, name string) (int, api.Type, bool) {
	for i, f := range Fields(l, c) {
		if f.Name == name {
			return i, f.Type, true
		}
	}
	return 0, api.TTop, false
}
