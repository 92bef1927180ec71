package flow_test

import (
	"slices"
	"testing"

	"proviso/api"
	"proviso/code"
	"proviso/flow"
)

func isBlocks(t *testing.T, what string, l []api.Instr, want []api.Block) {
	t.Helper()
	if got := flow.Blocks(l); !slices.EqualFunc(got, want, sameBlock) {
		t.Errorf("%s: %v: %v; want %v", what, l, got, want)
	}
}

func TestP5_5Blocks(t *testing.T) {
	isBlocks(t, "nil", nil, nil)
	isBlocks(t, "none", []api.Instr{}, nil)
	d := dice(6)
	for range 1500 {
		l := some(&d, 1+d.below(40))
		isBlocks(t, "code", l, blocksTold(l))
		l = sound(&d, d.below(40))
		isBlocks(t, "sound code", l, blocksTold(l))
		l = inOrder(&d, d.below(40))
		isBlocks(t, "strange", l, blocksTold(l))
	}
}

func TestP5_5OnlyOfListsThatCanBeGoneThrough(t *testing.T) {
	one := []api.Block{{From: 3, Last: 9, Next: nil}}
	isBlocks(t, "rising", []api.Instr{{At: 3}, {At: 4}, {At: 9}}, one)
	isBlocks(t, "twice", []api.Instr{{At: 3}, {At: 4}, {At: 4}, {At: 9}}, nil)
	isBlocks(t, "twice at last", []api.Instr{{At: 3}, {At: 9}, {At: 9}}, nil)
	isBlocks(t, "falling at first", []api.Instr{{At: 3}, {At: 2}, {At: 9}}, nil)
	isBlocks(t, "falling at last", []api.Instr{{At: 3}, {At: 9}, {At: -9}}, nil)
	d := dice(7)
	for range 500 {
		l := strange(&d, d.below(6))
		isBlocks(t, "strange", l, blocksTold(l))
	}
}

func TestP5_5WhatLeads(t *testing.T) {
	for op := range api.NumOps {
		l := laid(api.Instr{}, api.Instr{Op: op}, api.Instr{}, api.Instr{})
		size := code.Size(op)
		var want []api.Block
		switch op {
		case api.OpJump:
			want = []api.Block{{From: 0, Last: 1, Next: []int{0}}, {From: 1 + size, Last: 2 + size}}
		case api.OpUnless:
			want = []api.Block{{From: 0, Last: 1, Next: []int{0, 1 + size}}, {From: 1 + size, Last: 2 + size}}
		case api.OpReturn, api.OpTrap:
			want = []api.Block{{From: 0, Last: 1}, {From: 1 + size, Last: 2 + size}}
		default:
			want = []api.Block{{From: 0, Last: 2 + size}}
		}
		isBlocks(t, code.Name(op), l, want)
	}
	l := []api.Instr{{At: 0, Op: api.OpInt, A: 5}, {At: 5, Op: api.OpNop}, {At: 6, Op: api.OpReturn}, {At: 9000, Op: api.OpJump, A: 5}}
	isBlocks(t, "a jump that goes on nowhere leads", l, []api.Block{{From: 0, Last: 0, Next: []int{5}}, {From: 5, Last: 6}, {From: 9000, Last: 9000}})
	l = []api.Instr{{At: 0, Op: api.OpInt}, {At: 1, Op: api.OpUnless, A: 2}, {At: 4, Op: 99}, {At: 5, Op: api.OpReturn}}
	isBlocks(t, "ways to no instruction are left out", l, []api.Block{{From: 0, Last: 1, Next: []int{4}}, {From: 4, Last: 5}})
}

func isOrder(t *testing.T, l []api.Block, want []int) {
	t.Helper()
	if got := flow.Order(l); !slices.Equal(got, want) {
		t.Errorf("%v: %v; want %v", l, got, want)
	}
}

func TestP5_6Order(t *testing.T) {
	isOrder(t, nil, nil)
	isOrder(t, []api.Block{}, nil)
	isOrder(t, []api.Block{{}}, []int{0})
	d := dice(8)
	for range 3000 {
		l := graph(&d, 1+d.below(14))
		isOrder(t, l, orderTold(l))
	}
}

func TestP5_6DeepFirstAndTheOthersBehind(t *testing.T) {
	none := []int(nil)
	for _, x := range []struct {
		next [][]int
		want []int
	}{
		{[][]int{{1}, {2}, none}, []int{0, 1, 2}},
		{[][]int{{1, 2}, none, none}, []int{0, 2, 1}},
		{[][]int{{2, 1}, none, none}, []int{0, 1, 2}},
		{[][]int{{1, 2}, {2}, none}, []int{0, 1, 2}},
		{[][]int{{2, 1}, none, {1}}, []int{0, 2, 1}},
		{[][]int{{0}, none, none}, []int{0, 1, 2}},
		{[][]int{{2}, {0}, {0, 2}}, []int{0, 2, 1}},
		{[][]int{none, {2}, {1}}, []int{0, 1, 2}},
		{[][]int{{3}, none, none, none}, []int{0, 3, 1, 2}},
		{[][]int{{77, -1, 3, 3}, none, {3}, none}, []int{0, 3, 1, 2}},
		{[][]int{{1, 3}, {2}, {1, 3}, none}, []int{0, 1, 2, 3}},
	} {
		var l []api.Block
		for i, next := range x.next {
			l = append(l, api.Block{From: i, Last: i, Next: next})
		}
		isOrder(t, l, x.want)
	}
}

func TestP5_6OfSeveralWithOneFromTheFirst(t *testing.T) {
	isOrder(t, []api.Block{{From: 4, Next: []int{7}}, {From: 5}, {From: 7, Next: []int{4}}, {From: 7, Next: []int{5}}, {From: 4, Next: []int{5}}}, []int{0, 2, 1, 3, 4})
	isOrder(t, []api.Block{{From: 4, Next: []int{4}}, {From: 4, Next: []int{4}}}, []int{0, 1})
}

func TestP5_6DeeperThanCallsMayLie(t *testing.T) {
	n := 1 << 20
	l := make([]api.Block, n)
	for i := range l {
		l[i] = api.Block{From: i, Next: []int{i + 1}}
	}
	order := flow.Order(l)
	for i := range n {
		if order[i] != i {
			t.Fatal(i, order[i])
		}
	}
}

func TestP5_7NothingIsCutOff(t *testing.T) {
	d := dice(9)
	for range 1000 {
		b := bytesOf(t, sound(&d, d.below(60)))
		if at, e := flow.Check(b); at != 0 || e != api.OK {
			t.Fatal(at, e)
		}
		l := scanned(t, b)
		come := flow.Reach(l, 0)
		for _, at := range come {
			in, _ := firstAt(l, at)
			for _, to := range flow.Next(in) {
				if _, is := firstAt(l, to); !is || !slices.Contains(come, to) {
					t.Fatal(in, to)
				}
			}
		}
	}
}

func TestP5_8BlocksPartTheInstructions(t *testing.T) {
	d := dice(10)
	for range 1000 {
		l := inOrder(&d, d.below(50))
		if d.below(2) == 0 {
			l = sound(&d, d.below(50))
		}
		blocks, begins := flow.Blocks(l), []int{}
		for _, b := range blocks {
			begins = append(begins, b.From)
		}
		for _, in := range l {
			lies := 0
			for _, b := range blocks {
				if b.From <= in.At && in.At <= b.Last {
					lies++
					if in.At != b.Last && (code.Jumps(in.Op) || code.Ends(in.Op)) {
						t.Fatal("in the midst", in, b)
					}
				}
			}
			if lies != 1 {
				t.Fatal(in, lies)
			}
			if _, is := firstAt(l, in.A); is && code.Jumps(in.Op) && !slices.Contains(begins, in.A) {
				t.Fatal("into the midst", in)
			}
		}
	}
}

func TestP5_9EachNumberOnce(t *testing.T) {
	d := dice(11)
	for range 2000 {
		l := graph(&d, 1+d.below(20))
		order := flow.Order(l)
		if len(order) != len(l) || order[0] != 0 || !slices.Equal(once(order), flow.Order(make([]api.Block, len(l)))) {
			t.Fatal(l, order)
		}
	}
}

func TestP5_9AheadOfWhereItLeads(t *testing.T) {
	d := dice(12)
	for range 2000 {
		n := 1 + d.below(20)
		names := make([]int, n) // by number of a block; blocks lead up these names alone, so none leads back
		for i := range names {
			names[i] = i * 10
		}
		for i := range names {
			k := d.below(n)
			names[i], names[k] = names[k], names[i]
		}
		names[slices.Index(names, 0)], names[0] = names[0], 0
		var l []api.Block
		for _, name := range names {
			b := api.Block{From: name}
			for range d.below(4) {
				b.Next = append(b.Next, name+10*(1+d.below(n)))
			}
			l = append(l, b)
		}
		order, come := flow.Order(l), []int{0}
		for i := 0; i < len(come); i++ {
			for _, to := range l[come[i]].Next {
				k := slices.Index(names, to)
				if k < 0 {
					continue
				}
				if slices.Index(order, come[i]) > slices.Index(order, k) {
					t.Fatal(l, order)
				}
				if !slices.Contains(come, k) {
					come = append(come, k)
				}
			}
		}
	}
}

func TestExamplesOfChapter5(t *testing.T) {
	b := []byte{0x02, 0x01, 0x14, 0x00, 0x08, 0x13, 0x00, 0x00, 0x16}
	l := scanned(t, b)
	isCheck(t, b, 0, api.OK)
	isPlaces(t, "Next of the second", flow.Next(l[1]), []int{5, 8})
	isPlaces(t, "Targets", flow.Targets(l), []int{0, 8})
	isPlaces(t, "Behind", flow.Behind(l), []int{8, 9})
	isBlocks(t, "Blocks", l, []api.Block{{From: 0, Last: 2, Next: []int{5, 8}}, {From: 5, Last: 5, Next: []int{0}}, {From: 8, Last: 8}})
	isCheck(t, []byte{0x13, 0x00, 0x01}, 0, api.ErrTarget)
	isCheck(t, []byte{0x00}, 0, api.ErrOff)
	isCheck(t, nil, 0, api.ErrOff)
	isCheck(t, []byte{0xff}, 0, api.ErrOp)
}
