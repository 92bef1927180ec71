package types_test

import (
	"strconv"

	"proviso/api"
)

// The document's words once more, told by going through everything: what the package answers is held against these.

// dice throws the same numbers at every run.
type dice uint64

func (d *dice) below(n int) int {
	*d = *d*6364136223846793005 + 1442695040888963407
	return int(uint64(*d) >> 33 % uint64(n))
}

// shapes is the table T of chapter 2.
func shapes() []api.Class {
	return []api.Class{
		{Name: "shape", Parent: -1, Fields: []api.Field{{Name: "x", Type: api.TInt}}},
		{Name: "disc", Parent: 0, Fields: []api.Field{{Name: "r", Type: api.TInt}}},
		{Name: "box", Parent: 0, Fields: []api.Field{{Name: "w", Type: api.TInt}, {Name: "in", Type: api.TAny}}},
		{Name: "list", Parent: -1, Fields: []api.Field{{Name: "next", Type: api.TClass + 3}}},
	}
}

const (
	shape = api.TClass
	disc  = api.TClass + 1
	box   = api.TClass + 2
	list  = api.TClass + 3
)

// with is shapes and classes behind it.
func with(more ...api.Class) []api.Class { return append(shapes(), more...) }

// chain is n classes, each the parent of the next one.
func chain(n int) []api.Class {
	var l []api.Class
	for c := range n {
		l = append(l, api.Class{Name: "c" + strconv.Itoa(c), Parent: c - 1})
	}
	return l
}

// flat is n classes without parents.
func flat(n int) []api.Class {
	l := chain(n)
	for c := range l {
		l[c].Parent = -1
	}
	return l
}

// row is n fields of numbers.
func row(prefix string, n int) []api.Field {
	var l []api.Field
	for i := range n {
		l = append(l, api.Field{Name: prefix + strconv.Itoa(i), Type: api.TInt})
	}
	return l
}

// grown is a table of n classes with parents and fields as the dice fall; one that may be.
func grown(d *dice, n int) []api.Class {
	l := chain(n)
	for c := range l {
		l[c].Parent = d.below(c+1) - 1
		for i := range d.below(2) {
			of := []api.Type{api.TInt, api.TBool, api.TInts, api.TAny, api.TClass + api.Type(d.below(n))}[d.below(5)]
			l[c].Fields = append(l[c].Fields, api.Field{Name: "f" + strconv.Itoa(c) + "_" + strconv.Itoa(i), Type: of})
		}
	}
	return l
}

// tables are some that may be: empty, small, deep, broad, grown.
func tables() [][]api.Class {
	d := dice(2)
	l := [][]api.Class{nil, {}, shapes(), chain(1), chain(5), flat(4), chain(api.MaxClasses), flat(api.MaxClasses)}
	for n := range 10 {
		l = append(l, grown(&d, n))
	}
	return append(l, grown(&d, api.MaxClasses))
}

// valids are the valid types of a table.
func valids(l []api.Class) []api.Type {
	all := []api.Type{api.TTop, api.TInt, api.TBool, api.TNull, api.TInts, api.TAny}
	for c := range l {
		all = append(all, api.TClass+api.Type(c))
	}
	return all
}

func isValid(l []api.Class, t api.Type) bool {
	for _, v := range valids(l) {
		if v == t {
			return true
		}
	}
	return false
}

func isReference(t api.Type) bool {
	switch t {
	case api.TTop, api.TInt, api.TBool, 6, 7, 8, 9, 10, 11, 12, 13, 14, 15:
		return false
	}
	return true
}

// lineOf is a class's line, as numbers.
func lineOf(l []api.Class, c int) []int {
	if l[c].Parent < 0 {
		return []int{c}
	}
	return append([]int{c}, lineOf(l, l[c].Parent)...)
}

// isOf is P2.3 of valid types.
func isOf(l []api.Class, a, b api.Type) bool {
	if a == b || b == api.TTop || a == api.TNull && isReference(b) || isReference(a) && b == api.TAny {
		return true
	}
	if a < api.TClass || b < api.TClass {
		return false
	}
	for _, c := range lineOf(l, int(a-api.TClass)) {
		if c == int(b-api.TClass) {
			return true
		}
	}
	return false
}

// leasts are all types that P2.4 asks for, of valid types: there must be one.
func leasts(l []api.Class, a, b api.Type) []api.Type {
	var above, least []api.Type
	for _, t := range valids(l) {
		if isOf(l, a, t) && isOf(l, b, t) {
			above = append(above, t)
		}
	}
	for _, t := range above {
		all := true
		for _, u := range above {
			all = all && isOf(l, t, u)
		}
		if all {
			least = append(least, t)
		}
	}
	return least
}

// longest is P2.5 of a valid type; known keeps what was found, for there are many ways up.
func longest(l []api.Class, t api.Type, known map[api.Type]int) int {
	if n, ok := known[t]; ok {
		return n
	}
	n := 0
	for _, u := range valids(l) {
		if u != t && isOf(l, t, u) {
			n = max(n, 1+longest(l, u, known))
		}
	}
	known[t] = n
	return n
}

// allFields is 2.1's: all fields of the parent, and its own behind them.
func allFields(l []api.Class, c int) []api.Field {
	var all []api.Field
	if p := l[c].Parent; p >= 0 {
		all = allFields(l, p)
	}
	return append(all, l[c].Fields...)
}
