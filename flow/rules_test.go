package flow_test

import (
	"bytes"
	"slices"
	"testing"

	"proviso/api"
	"proviso/flow"
)

// withRoom is a copy of a list, and behind its end room that is filled by one thing.
func withRoom[T any](l []T, filled T) []T {
	room := append(make([]T, 0, len(l)+4), l...)
	return append(room, filled, filled, filled, filled)[:len(l)]
}

// spoilt is all of a list's memory, its room included, written over.
func spoilt[T any](l []T, by T) {
	l = l[:cap(l)]
	for i := range l {
		l[i] = by
	}
}

func TestNothingHandedInIsChanged(t *testing.T) {
	d := dice(13)
	for range 300 {
		l := sound(&d, d.below(20))
		b := withRoom(bytesOf(t, l), 0xee)
		was := slices.Clone(b[:cap(b)])
		flow.Scan(b)
		flow.Check(b)
		if !bytes.Equal(b[:cap(b)], was) {
			t.Fatal("bytes", b[:cap(b)], was)
		}
		for _, l := range [][]api.Instr{l, strange(&d, d.below(20))} {
			l = withRoom(l, api.Instr{At: 77, Op: api.OpJump, A: 78})
			kept := slices.Clone(l[:cap(l)])
			flow.Targets(l)
			flow.Behind(l)
			flow.Reach(l, 0)
			flow.Blocks(l)
			if !slices.Equal(l[:cap(l)], kept) {
				t.Fatal("instructions", l[:cap(l)], kept)
			}
		}
		g := withRoom(graph(&d, 1+d.below(9)), api.Block{From: 1, Next: []int{2}})
		var kept []api.Block
		for i, x := range g[:cap(g)] {
			g[:cap(g)][i].Next = withRoom(x.Next, 5)
			kept = append(kept, api.Block{From: x.From, Last: x.Last, Next: slices.Clone(x.Next)})
		}
		flow.Order(g)
		for i, x := range g[:cap(g)] {
			if !sameBlock(x, kept[i]) || !slices.Equal(x.Next[len(x.Next):cap(x.Next)], []int{5, 5, 5, 5}) {
				t.Fatal("blocks", x, kept[i])
			}
		}
	}
}

// TestRoomBehindTheEndIsNotRead: what stands behind a list's end plays no part.
func TestRoomBehindTheEndIsNotRead(t *testing.T) {
	isCheck(t, []byte{0, 0x16}[:1], 0, api.ErrOff)
	isCheck(t, []byte{0x13, 0, 3, 0x16}[:3], 0, api.ErrTarget)
	isScan(t, []byte{0x13, 0, 3, 0x16}[:2], nil, 0, api.ErrShort)
	l := []api.Instr{{At: 0, Op: api.OpNop}, {At: 1, Op: api.OpJump, A: 0}, {At: 4, Op: api.OpReturn}}
	isPlaces(t, "Reach", flow.Reach(l[:1], 0), []int{0})
	isPlaces(t, "Targets", flow.Targets(l[:1]), nil)
	isPlaces(t, "Behind", flow.Behind(l[:1]), nil)
	isBlocks(t, "Blocks", l[:1], []api.Block{{From: 0, Last: 0}})
	isOrder(t, []api.Block{{From: 0, Next: []int{7, 9}[:1]}, {From: 5}, {From: 9}, {From: 7}}[:3], []int{0, 1, 2})
}

func TestAnswersAreNewMemory(t *testing.T) {
	d := dice(14)
	for range 200 {
		l := sound(&d, 3+d.below(20))
		b := bytesOf(t, l)
		one, two := scanned(t, b), scanned(t, b)
		spoilt(one, api.Instr{At: -9, Op: 99})
		if !slices.Equal(two, l) {
			t.Fatal("Scan", two)
		}
		blocks, again := flow.Blocks(l), flow.Blocks(l)
		for _, x := range blocks {
			spoilt(x.Next, -9)
		}
		spoilt(blocks, api.Block{})
		if !slices.EqualFunc(again, blocksTold(l), sameBlock) {
			t.Fatal("Blocks", again)
		}
		for i, x := range again {
			spoilt(x.Next, -9)
			if rest := again[i+1:]; !slices.EqualFunc(rest, blocksTold(l)[i+1:], sameBlock) {
				t.Fatal("two blocks share their Next", rest)
			}
		}
		for _, call := range []func() []int{
			func() []int { return flow.Next(l[1]) }, func() []int { return flow.Targets(l) }, func() []int { return flow.Behind(l) },
			func() []int { return flow.Reach(l, 0) }, func() []int { return flow.Order(blocksTold(l)) },
		} {
			first, second := call(), call()
			was := slices.Clone(second)
			spoilt(first, -9)
			if !slices.Equal(second, was) || !slices.Equal(call(), was) {
				t.Fatal(second, was)
			}
		}
	}
}

// TestNotFromTheOrderOfAMap: many addresses, asked again and again.
func TestNotFromTheOrderOfAMap(t *testing.T) {
	d := dice(15)
	l := sound(&d, 600)
	to, behind, come, order := flow.Targets(l), flow.Behind(l), flow.Reach(l, 0), flow.Order(flow.Blocks(l))
	for range 30 {
		isPlaces(t, "Targets", flow.Targets(l), to)
		isPlaces(t, "Behind", flow.Behind(l), behind)
		isPlaces(t, "Reach", flow.Reach(l, 0), come)
		isPlaces(t, "Order", flow.Order(flow.Blocks(l)), order)
	}
	if !slices.IsSorted(to) || !slices.IsSorted(behind) || !slices.IsSorted(come) {
		t.Fatal("not rising")
	}
}

func TestAllEndsOfAllArguments(t *testing.T) {
	d := dice(16)
	for range 3000 {
		b := make([]byte, d.below(40))
		for i := range b {
			b[i] = byte(d.below(256) >> d.below(8))
		}
		l, at, e := flow.Scan(b)
		if n, f := flow.Check(b); e != api.OK && (n != at || f != e || l != nil) {
			t.Fatal(b, at, e, n, f)
		}
		l = strange(&d, d.below(30))
		for _, n := range huge() {
			flow.Reach(l, n)
		}
		flow.Order(flow.Blocks(l))
		flow.Order(graph(&d, 1+d.below(9)))
	}
}
