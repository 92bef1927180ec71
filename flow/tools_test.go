package flow_test

import (
	"math"
	"slices"
	"testing"

	"proviso/api"
	"proviso/code"
	"proviso/flow"
)

// dice throws the same numbers at every run.
type dice uint64

func (d *dice) below(n int) int {
	*d = *d*6364136223846793005 + 1442695040888963407
	return int(uint64(*d) >> 33 % uint64(n))
}

// huge are numbers that no address comes to, and the ends of those that one may.
func huge() []int {
	return []int{math.MinInt, math.MinInt + 1, math.MinInt32, -65536, -2, -1, 0, 1, 4094, 4095, 4096, 4097, 65535, 65536, math.MaxInt32, math.MaxInt - 4, math.MaxInt - 1, math.MaxInt}
}

// laid is instructions with the addresses that they have one behind another.
func laid(l ...api.Instr) []api.Instr {
	at := 0
	for i := range l {
		l[i].At = at
		at += code.Size(l[i].Op)
	}
	return l
}

// bytesOf is the code of instructions.
func bytesOf(t *testing.T, l []api.Instr) []byte {
	t.Helper()
	b, _, e := code.All(l)
	if e != api.OK {
		t.Fatal(l, e)
	}
	return b
}

// some is instructions as the dice fall, laid; jumps lead anywhere near.
func some(d *dice, n int) []api.Instr {
	var l []api.Instr
	for range n {
		in := api.Instr{Op: byte(d.below(int(api.NumOps)))}
		if d.below(3) == 0 {
			in.Op = []byte{api.OpJump, api.OpUnless, api.OpReturn}[d.below(3)]
		}
		if code.Jumps(in.Op) {
			in.A = d.below(2*n + 2)
		} else if in.Op == api.OpBool || code.Size(in.Op) == 5 {
			in.A = d.below(2)
		}
		l = append(l, in)
	}
	return laid(l...)
}

// sound is code that may be: some, with all jumps led to instructions, and a return at last.
func sound(d *dice, n int) []api.Instr {
	l := laid(append(some(d, n), api.Instr{Op: api.OpReturn})...)
	for i := range l {
		if code.Jumps(l[i].Op) {
			l[i].A = l[d.below(len(l))].At
		}
	}
	return l
}

// strange is instructions as no code has them: addresses out of order, more than once, huge; bytes that are no instruction.
func strange(d *dice, n int) []api.Instr {
	number := func() int {
		if d.below(6) == 0 {
			return huge()[d.below(len(huge()))]
		}
		return d.below(n+3) - 2
	}
	var l []api.Instr
	for range n {
		in := api.Instr{At: number(), Op: byte(d.below(36)), A: number(), B: number()}
		if d.below(2) == 0 {
			in.Op = []byte{api.OpJump, api.OpUnless, api.OpReturn, api.OpNop, 200}[d.below(5)]
		}
		l = append(l, in)
	}
	return l
}

// inOrder is strange ones that can be gone through.
func inOrder(d *dice, n int) []api.Instr {
	l := strange(d, n)
	slices.SortStableFunc(l, func(a, b api.Instr) int {
		if a.At < b.At {
			return -1
		}
		if a.At > b.At {
			return 1
		}
		return 0
	})
	return slices.CompactFunc(l, func(a, b api.Instr) bool { return a.At == b.At })
}

// graph is blocks as the dice fall: some of one From, ways on that lead nowhere, or twice to one.
func graph(d *dice, n int) []api.Block {
	var l []api.Block
	for range n {
		b := api.Block{From: d.below(2*n) - n/2, Last: d.below(9)}
		for range d.below(4) {
			b.Next = append(b.Next, d.below(2*n)-n/2)
		}
		l = append(l, b)
	}
	return l
}

// once is numbers rising, each once.
func once(l []int) []int {
	var all []int
	for _, n := range l {
		if !slices.Contains(all, n) {
			all = append(all, n)
		}
	}
	for i := range all {
		for k := range i {
			if all[i] < all[k] {
				all[i], all[k] = all[k], all[i]
			}
		}
	}
	return all
}

// nextTold is P5.2.
func nextTold(in api.Instr) []int {
	if in.Op > api.OpTell || in.At < 0 || in.At > 4095 {
		return nil
	}
	var l []int
	if !code.Ends(in.Op) {
		l = append(l, in.At+code.Size(in.Op))
	}
	if code.Jumps(in.Op) {
		l = append(l, in.A)
	}
	return once(l)
}

// firstAt is the first instruction of an address.
func firstAt(l []api.Instr, at int) (api.Instr, bool) {
	for _, in := range l {
		if in.At == at {
			return in, true
		}
	}
	return api.Instr{}, false
}

// reachTold is P5.4: one comes to it after another, till none does any more.
func reachTold(l []api.Instr, from int) []int {
	var come []int
	if _, is := firstAt(l, from); is {
		come = append(come, from)
	}
	for i := 0; i < len(come); i++ {
		in, _ := firstAt(l, come[i])
		for _, to := range nextTold(in) {
			if _, is := firstAt(l, to); is && !slices.Contains(come, to) {
				come = append(come, to)
			}
		}
	}
	return once(come)
}

// leadsTold is P5.5's word of the instruction at a place of l.
func leadsTold(l []api.Instr, i int) bool {
	if i == 0 || code.Jumps(l[i-1].Op) || code.Ends(l[i-1].Op) {
		return true
	}
	return slices.ContainsFunc(l, func(j api.Instr) bool { return code.Jumps(j.Op) && j.A == l[i].At })
}

// blocksTold is P5.5.
func blocksTold(l []api.Instr) []api.Block {
	var all []api.Block
	for i, in := range l {
		if i > 0 && in.At <= l[i-1].At {
			return nil
		}
	}
	for i, in := range l {
		if !leadsTold(l, i) {
			continue
		}
		last := i
		for last+1 < len(l) && !leadsTold(l, last+1) {
			last++
		}
		b := api.Block{From: in.At, Last: l[last].At}
		for _, to := range nextTold(l[last]) {
			if _, is := firstAt(l, to); is {
				b.Next = append(b.Next, to)
			}
		}
		all = append(all, b)
	}
	return all
}

// orderTold is P5.6.
func orderTold(l []api.Block) []int {
	var order []int
	into := make([]bool, len(l))
	var in func(n int)
	in = func(n int) {
		into[n] = true
		for _, to := range l[n].Next {
			k := slices.IndexFunc(l, func(b api.Block) bool { return b.From == to })
			if k >= 0 && !into[k] {
				in(k)
			}
		}
		order = slices.Insert(order, 0, n)
	}
	if len(l) > 0 {
		in(0)
	}
	for n := range l {
		if !into[n] {
			order = append(order, n)
		}
	}
	return order
}

func sameBlock(a, b api.Block) bool {
	return a.From == b.From && a.Last == b.Last && slices.Equal(a.Next, b.Next)
}

// scanned is the instructions of code that can be gone through.
func scanned(t *testing.T, b []byte) []api.Instr {
	t.Helper()
	l, at, e := flow.Scan(b)
	if at != 0 || e != api.OK {
		t.Fatal(b, at, e)
	}
	return l
}
