package frames_test

import (
	"math"
	"strconv"

	"proviso/api"
	"proviso/types"
)

// dice throws the same numbers at every run.
type dice uint64

func (d *dice) below(n int) int {
	*d = *d*6364136223846793005 + 1442695040888963407
	return int(uint64(*d) >> 33 % uint64(n))
}

const (
	shape = api.TClass
	disc  = api.TClass + 1
	box   = api.TClass + 2
	list  = api.TClass + 3
)

// shapes is the table T of chapter 2, without its fields.
func shapes() []api.Class {
	return []api.Class{{Name: "shape", Parent: -1}, {Name: "disc", Parent: 0}, {Name: "box", Parent: 0}, {Name: "list", Parent: -1}}
}

// chain is n classes, each the parent of the next one.
func chain(n int) []api.Class {
	var l []api.Class
	for c := range n {
		l = append(l, api.Class{Name: "c" + strconv.Itoa(c), Parent: c - 1})
	}
	return l
}

// grown is n classes with parents as the dice fall.
func grown(d *dice, n int) []api.Class {
	l := chain(n)
	for c := range l {
		l[c].Parent = d.below(c+1) - 1
	}
	return l
}

// tables are some that may be: empty, small, deep, grown.
func tables() [][]api.Class {
	d := dice(3)
	return [][]api.Class{nil, {}, shapes(), chain(api.MaxClasses), grown(&d, 7), grown(&d, api.MaxClasses)}
}

// broken are tables that may not be: a call with them must end all the same.
func broken() [][]api.Class {
	round := []api.Class{{Name: "a", Parent: 1}, {Name: "b", Parent: 0}, {Name: "c", Parent: 2}}
	far := []api.Class{{Name: "", Parent: math.MinInt}, {Name: "", Parent: math.MaxInt}, {Name: "a", Parent: -7}}
	return [][]api.Class{round, far, chain(300), make([]api.Class, 500)}
}

// valids are the valid types of a table.
func valids(l []api.Class) []api.Type {
	all := []api.Type{api.TTop, api.TInt, api.TBool, api.TNull, api.TInts, api.TAny}
	for c := range l {
		all = append(all, api.TClass+api.Type(c))
	}
	return all
}

// of is a frame whose entries are these; the first so many are its locals.
func of(locals int, entries ...api.Type) api.Frame {
	f := api.Frame{Locals: locals, Height: len(entries) - locals}
	copy(f.Slots[:], entries)
	return f
}

// thrown is a frame of a shape, with entries as the dice fall.
func thrown(d *dice, l []api.Class, locals, height int) api.Frame {
	all := valids(l)
	f := api.Frame{Locals: locals, Height: height}
	for i := range locals + height {
		f.Slots[i] = all[d.below(len(all))]
	}
	return f
}

// above is a frame that f is of: each of its entries stays, or is one that it is of.
func above(d *dice, l []api.Class, f api.Frame) api.Frame {
	all := valids(l)
	for i := range f.Locals + f.Height {
		if t := all[d.below(len(all))]; types.Sub(l, f.Slots[i], t) {
			f.Slots[i] = t
		}
	}
	return f
}

// shapeMayBe is the document's word, gone through without sums.
func shapeMayBe(locals, height int) bool {
	for x := range 17 {
		for y := range 25 - x {
			if x == locals && y == height {
				return true
			}
		}
	}
	return false
}

// counts are numbers for Locals and Heights: all near the limits, and huge ones whose sums wrap round.
func counts() []int {
	all := []int{math.MinInt, math.MinInt + 1, math.MinInt + 16, math.MinInt32, -256, math.MaxInt, math.MaxInt - 1, math.MaxInt - 15, math.MaxInt - 16, math.MaxInt32, 256, 1 << 32, 1 << 63 >> 1}
	for n := -26; n <= 50; n++ {
		all = append(all, n)
	}
	return all
}

// everyShape yields all shapes that can be.
func everyShape(yield func(locals, height int) bool) {
	for locals := range api.MaxLocals + 1 {
		for height := range api.MaxSlots - locals + 1 {
			if !yield(locals, height) {
				return
			}
		}
	}
}
