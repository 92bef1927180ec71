package opt

import (
	"slices"

	"proviso/api"
	"proviso/code"
	"proviso/flow"
)

// list is the instructions of code. A jump's A is the place in the list of the one to which it leads: so places alone are reckoned when some go out, and addresses once, at the end. At plays no part.
type list []api.Instr

// read is the list of code that flow.Check takes.
func read(b []byte) list {
	l, _, _ := flow.Scan(b)
	places := map[int]int{} // by address
	for i, in := range l {
		places[in.At] = i
	}
	for i := range l {
		l[i].At = 0
		if code.Jumps(l[i].Op) {
			l[i].A = places[l[i].A]
		}
	}
	return l
}

// laid is the instructions with their addresses, and with addresses as the jumps' A's.
func (l list) laid() []api.Instr {
	all := slices.Clone(l)
	at := 0
	for i, in := range all {
		all[i].At = at
		at += code.Size(in.Op)
	}
	for i, in := range l {
		if code.Jumps(in.Op) {
			all[i].A = all[in.A].At
		}
	}
	return all
}

// bytes has no error to tell: a list has no more bytes than the code that was read.
func (l list) bytes() []byte {
	b, _, _ := code.All(l.laid())
	return b
}

// led tells by place what is led to.
func (l list) led() []bool {
	led := make([]bool, len(l))
	for _, in := range l {
		if code.Jumps(in.Op) {
			led[in.A] = true
		}
	}
	return led
}

// without leaves out those that are marked. A jump to one of them leads to the next one behind it that is left; there is one, for no rule takes out a last instruction that is come to.
func (l list) without(out []bool) list {
	now := make([]int, len(l)) // by place: how many are left ahead of it
	n := 0
	for i := range l {
		now[i] = n
		if !out[i] {
			n++
		}
	}
	left := make(list, 0, n)
	for i, in := range l {
		if out[i] {
			continue
		}
		if code.Jumps(in.Op) {
			in.A = now[in.A]
		}
		left = append(left, in)
	}
	return left
}
