package opt_test

import (
	"slices"

	"proviso/api"
	"proviso/code"
	"proviso/flow"
)

// node is an instruction that is itself wherever it stands; a jump leads to one.
type node struct {
	op   byte
	a, b int
	to   *node
}

func (n *node) jumps() bool { return n.op == api.OpJump || n.op == api.OpUnless }

// told is the chapter's section 'Rules' over again, by its words, of code that flow.Check takes.
func told(b []byte) []byte {
	l := nodesOf(b)
	for {
		before := bytesOf(l)
		l = toldSure(toldConstants(toldNothing(toldDead(toldThreads(l)))))
		if slices.Equal(bytesOf(l), before) {
			return before
		}
	}
}

func nodesOf(b []byte) []*node {
	ins, _, _ := flow.Scan(b)
	at := map[int]*node{}
	var l []*node
	for _, in := range ins {
		n := &node{op: in.Op, a: in.A, b: in.B}
		at[in.At] = n
		l = append(l, n)
	}
	for _, n := range l {
		if n.jumps() {
			n.to = at[n.a]
		}
	}
	return l
}

func addresses(l []*node) map[*node]int {
	ats, at := map[*node]int{}, 0
	for _, n := range l {
		ats[n] = at
		at += code.Size(n.op)
	}
	return ats
}

func bytesOf(l []*node) []byte {
	ats := addresses(l)
	var b []byte
	for _, n := range l {
		in := api.Instr{Op: n.op, A: n.a, B: n.b}
		if n.jumps() {
			in.A = ats[n.to]
		}
		x, _ := code.Encode(in)
		b = append(b, x...)
	}
	return b
}

// leaving leaves out what went out: each jump leads to the instruction to which it led, or to the next one behind it that is left.
func leaving(l []*node, out map[*node]int) []*node {
	var left []*node
	next := map[*node]*node{}
	var last *node
	for _, n := range slices.Backward(l) {
		if out[n] == 0 {
			last = n
		}
		next[n] = last
	}
	for _, n := range l {
		if out[n] == 0 {
			if n.jumps() {
				n.to = next[n.to]
			}
			left = append(left, n)
		}
	}
	return left
}

func toldThreads(l []*node) []*node {
	to := map[*node]*node{}
	for _, n := range l {
		if !n.jumps() {
			continue
		}
		to[n] = n.to
		if n.to.op != api.OpJump || n.to == n {
			continue
		}
		came := map[*node]int{}
		at := n.to
		for at.op == api.OpJump && came[at] == 0 {
			came[at] = 1
			at = at.to
		}
		if came[at] == 0 {
			to[n] = at
		}
	}
	for n, at := range to {
		n.to = at
	}
	return l
}

func toldDead(l []*node) []*node {
	ins, _, _ := flow.Scan(bytesOf(l))
	come, ats, out := flow.Reach(ins, 0), addresses(l), map[*node]int{}
	for _, n := range l {
		if !slices.Contains(come, ats[n]) {
			out[n] = 1
		}
	}
	return leaving(l, out)
}

func toldNothing(l []*node) []*node {
	out := map[*node]int{}
	for i, n := range l {
		right := i+1 < len(l) && n.jumps() && n.to == l[i+1]
		if n.op == api.OpNop || n.op == api.OpJump && right {
			out[n] = 1
		}
		if n.op == api.OpUnless && right {
			n.op, n.a, n.to = api.OpPop, 0, nil
		}
	}
	return leaving(l, out)
}

// isLed tells whether one of a few is led to.
func isLed(l []*node, few []*node) bool {
	for _, n := range l {
		if n.jumps() && slices.Contains(few, n.to) {
			return true
		}
	}
	return false
}

// names are the words of a few instructions, from one on.
func names(l []*node, from, n int) string {
	text := ""
	for i := from; i < len(l) && i < from+n; i++ {
		text += code.Name(l[i].op) + " "
	}
	return text
}

func toldConstants(l []*node) []*node {
	out := map[*node]int{}
	for i := 0; i < len(l); {
		n := 0
		for size := 2; size <= 3; size++ {
			if i+size <= len(l) && !isLed(l, l[i+1:i+size]) && toldCame(l[i], l[min(i+1, len(l)-1)], names(l, i, size), out) {
				n = size
				break
			}
		}
		if n == 0 {
			i++
			continue
		}
		for _, x := range l[i+1 : i+n] {
			out[x] = 1
		}
		i += n
	}
	return leaving(l, out)
}

// toldCame lets the first of some instructions become what comes of them, or go out; false, if they are none of the rule's.
func toldCame(first, second *node, all string, out map[*node]int) bool {
	a, b := int32(first.a), int32(second.a)
	number := func(n int32) { first.op, first.a = api.OpInt, int(n) }
	truth := func(is bool) {
		first.op, first.a = api.OpBool, 0
		if is {
			first.a = 1
		}
	}
	switch all {
	case "int int add ":
		number(a + b)
	case "int int sub ":
		number(a - b)
	case "int int mul ":
		number(a * b)
	case "int neg ":
		number(-a)
	case "bool not ":
		truth(a == 0)
	case "int int less ":
		truth(a < b)
	case "int int same ", "bool bool same ":
		truth(a == b)
	case "int pop ", "bool pop ", "null pop ", "dup pop ", "not not ":
		out[first] = 1
	default:
		return false
	}
	return true
}

func toldSure(l []*node) []*node {
	out := map[*node]int{}
	for i := 0; i+1 < len(l); i++ {
		if names(l, i, 2) != "bool unless " || isLed(l, l[i+1:i+2]) {
			continue
		}
		if l[i].a == 1 {
			out[l[i]], out[l[i+1]] = 1, 1
		} else {
			out[l[i]] = 1
			l[i+1].op = api.OpJump
		}
	}
	return leaving(l, out)
}
