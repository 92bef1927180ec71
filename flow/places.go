package flow

import (
	"slices"

	"proviso/api"
)

// places are addresses, each once.
type places map[int]struct{}

// rising puts them in order, since a map has none that may be told.
func (p places) rising() []int {
	var all []int
	for at := range p {
		all = append(all, at)
	}
	slices.Sort(all)
	return all
}

// firsts says, by address, where in a list the first one of that address stands.
func firsts[T any](l []T, of func(T) int) map[int]int {
	where := map[int]int{}
	for i, x := range slices.Backward(l) { // so that the first one is put in last, and stays
		where[of(x)] = i
	}
	return where
}

func address(in api.Instr) int { return in.At }

func begin(b api.Block) int { return b.From }
