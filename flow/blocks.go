package flow

import (
	"slices"

	"proviso/api"
	"proviso/code"
)

// Blocks are code's stretches, each of which is gone through from its first instruction to its last one.
func Blocks(l []api.Instr) []api.Block {
	if !rises(l) {
		return nil
	}
	stands, leads := firsts(l, address), leading(l)
	var blocks []api.Block
	for i, first := range leads {
		end := len(l)
		if i+1 < len(leads) {
			end = leads[i+1]
		}
		last := l[end-1]
		blocks = append(blocks, api.Block{From: l[first].At, Last: last.At, Next: among(stands, Next(last))})
	}
	return blocks
}

// rises tells whether instructions can be gone through.
func rises(l []api.Instr) bool {
	for i := 1; i < len(l); i++ {
		if l[i].At <= l[i-1].At {
			return false
		}
	}
	return true
}

// leading is where in l the instructions stand with which blocks begin.
func leading(l []api.Instr) []int {
	led := targets(l)
	var leads []int
	for i, in := range l {
		_, is := led[in.At]
		if is || i == 0 || parts(l[i-1].Op) {
			leads = append(leads, i)
		}
	}
	return leads
}

// parts tells whether an instruction is the last one of its block, whatever stands behind it.
func parts(op byte) bool { return code.Jumps(op) || code.Ends(op) }

// among is those of l that stand somewhere.
func among(stands map[int]int, l []int) []int {
	return slices.DeleteFunc(l, func(at int) bool {
		_, is := stands[at]
		return !is
	})
}

// visit is a block that was gone into, and how many of its ways on were tried.
type visit struct{ block, tried int }

// Order is the blocks' numbers, each ahead of those to which it leads, but for loops.
func Order(l []api.Block) []int {
	if len(l) == 0 {
		return nil
	}
	order, into := deepFirst(l)
	for i, was := range into {
		if !was {
			order = append(order, i)
		}
	}
	return order
}

// deepFirst is the blocks that are come to from block 0, in the order in which they were left, turned round; and which these are. The way back is kept in a list, since blocks may lie deeper in one another than calls may.
func deepFirst(l []api.Block) (order []int, into []bool) {
	number := firsts(l, begin)
	into = make([]bool, len(l))
	into[0] = true
	for way := []visit{{}}; len(way) > 0; {
		here := &way[len(way)-1]
		next := l[here.block].Next
		if here.tried == len(next) {
			order = append(order, here.block)
			way = way[:len(way)-1]
			continue
		}
		to, is := number[next[here.tried]]
		here.tried++
		if is && !into[to] {
			into[to] = true
			way = append(way, visit{block: to})
		}
	}
	slices.Reverse(order)
	return order, into
}
