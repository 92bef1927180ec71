package types

import "proviso/api"

// Sub tells whether all values of a type are of another one.
func Sub(l []api.Class, a, b api.Type) bool {
	switch {
	case !Valid(l, a) || !Valid(l, b):
		return false
	case a == b || b == api.TTop:
		return true
	case a == api.TNull:
		return IsRef(b)
	case b == api.TAny:
		return IsRef(a)
	}
	return inLine(l, classOf(a), classOf(b))
}

// inLine tells whether a class is of another one's line; false, if one of them is none.
func inLine(l []api.Class, below, above int) bool {
	for c := range line(l, below) {
		if c == above {
			return true
		}
	}
	return false
}

// Merge is the least type that both are of.
func Merge(l []api.Class, a, b api.Type) api.Type {
	switch {
	case !Valid(l, a) || !Valid(l, b):
		return api.TTop
	case Sub(l, a, b):
		return b
	case Sub(l, b, a):
		return a
	case !IsRef(a) || !IsRef(b):
		return api.TTop
	}
	for c := range line(l, classOf(a)) {
		if Sub(l, b, typeOf(c)) {
			return typeOf(c)
		}
	}
	return api.TAny
}

// Rank is how many steps a type is below TTop at most.
func Rank(l []api.Class, t api.Type) int {
	switch {
	case !Valid(l, t) || t == api.TTop:
		return 0
	case t == api.TNull:
		return 1 + highestRef(l)
	case t == api.TInts:
		return 1 + Rank(l, api.TAny)
	}
	n := 1
	for range line(l, classOf(t)) {
		n++
	}
	return n
}

// highestRef is the highest rank of the references but TNull, which lies below them all.
func highestRef(l []api.Class) int {
	n := Rank(l, api.TInts)
	for c := range min(len(l), api.MaxClasses) {
		n = max(n, Rank(l, typeOf(c)))
	}
	return n
}
