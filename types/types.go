// Package types is layer 2: type codes, tables of classes, their order and merge; see ../../shared/doc/02-types.md.
package types

import (
	"iter"

	"proviso/api"
)

// Valid tells whether a type is one over a table.
func Valid(l []api.Class, t api.Type) bool {
	return t <= api.TAny || isClass(l, classOf(t))
}

// IsRef tells whether a type's values are references, of whatever table.
func IsRef(t api.Type) bool {
	return t == api.TNull || t == api.TInts || t == api.TAny || t >= api.TClass
}

func isClass(l []api.Class, c int) bool { return c >= 0 && c < len(l) }

// classOf is a type's class; below 0, and so no class of any table, if the type is none's.
func classOf(t api.Type) int { return int(t) - int(api.TClass) }

func typeOf(c int) api.Type { return api.TClass + api.Type(c) }

// line goes up from a class: it, its parent, that one's parent, and so on. A parent that does not stand ahead ends it, for a table that may not be could lead round for ever.
func line(l []api.Class, c int) iter.Seq[int] {
	return func(yield func(int) bool) {
		at, below := c, len(l)
		for at >= 0 && at < below && yield(at) {
			at, below = l[at].Parent, at
		}
	}
}
