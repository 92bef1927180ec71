// Package samples makes what the tests of several layers try their calls on: tables, frames, environments, and code as the dice fall, the same at every run. No layer calls it.
package samples

import (
	"math"
	"strconv"

	"proviso/api"
	"proviso/types"
)

// Dice throws the same numbers at every run.
type Dice uint64

// Below is a number from 0 to n - 1.
func (d *Dice) Below(n int) int {
	*d = *d*6364136223846793005 + 1442695040888963407
	return int(uint64(*d) >> 33 % uint64(n))
}

// The classes of Shapes, as types.
const (
	Shape = api.TClass
	Disc  = api.TClass + 1
	Box   = api.TClass + 2
	List  = api.TClass + 3
)

// Shapes is the table T of chapter 2.
func Shapes() []api.Class {
	return []api.Class{
		{Name: "shape", Parent: -1, Fields: []api.Field{{Name: "x", Type: api.TInt}}},
		{Name: "disc", Parent: 0, Fields: []api.Field{{Name: "r", Type: api.TInt}}},
		{Name: "box", Parent: 0, Fields: []api.Field{{Name: "w", Type: api.TInt}, {Name: "in", Type: api.TAny}}},
		{Name: "list", Parent: -1, Fields: []api.Field{{Name: "next", Type: List}}},
	}
}

// Chain is n classes, each the parent of the next one.
func Chain(n int) []api.Class {
	var l []api.Class
	for c := range n {
		l = append(l, api.Class{Name: "c" + strconv.Itoa(c), Parent: c - 1})
	}
	return l
}

// Valids are the valid types of a table.
func Valids(l []api.Class) []api.Type {
	all := []api.Type{api.TTop, api.TInt, api.TBool, api.TNull, api.TInts, api.TAny}
	for c := range l {
		all = append(all, api.TClass+api.Type(c))
	}
	return all
}

// Frame is one whose entries are these; the first so many are its locals.
func Frame(locals int, entries ...api.Type) api.Frame {
	f := api.Frame{Locals: locals, Height: len(entries) - locals}
	copy(f.Slots[:], entries)
	return f
}

// Above is a frame that f is of: each of its entries stays, or is one that it is of.
func Above(d *Dice, l []api.Class, f api.Frame) api.Frame {
	all := Valids(l)
	for i := range f.Locals + f.Height {
		if t := all[d.Below(len(all))]; types.Sub(l, f.Slots[i], t) {
			f.Slots[i] = t
		}
	}
	return f
}

// One is the environment of one function, that takes and gives nothing.
func One() api.Env { return api.Env{Sigs: []api.Sig{{}}} }

// World is an environment of four functions over Shapes.
func World(fn int) api.Env {
	return api.Env{Classes: Shapes(), Fn: fn, Sigs: []api.Sig{
		{},
		{Params: []api.Type{Disc, api.TInt}, Result: api.TInt},
		{Params: []api.Type{api.TAny, api.TBool}, Result: Shape},
		{Params: []api.Type{Shape, Box, List}},
	}}
}

// Numbers are some out of all ranges, and the ranges' ends.
func Numbers() []int {
	return []int{math.MinInt, math.MinInt + 1, math.MinInt32, -65536, -2, -1, 0, 1, 2, 3, 15, 16, 17, 63, 64, 65, 4095, 4096, 4097, 65536, math.MaxInt32, 1 << 32, math.MaxInt - 1, math.MaxInt}
}

// Overwrite writes over all of a list, its spare room too: whoever shares its memory is changed by it.
func Overwrite[T any](l []T, with T) {
	l = l[:cap(l)]
	for i := range l {
		l[i] = with
	}
}
