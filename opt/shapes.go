package opt

import (
	"slices"

	"proviso/api"
)

// shape is instructions that stand one behind another, and what they become: one instruction, or none.
type shape struct {
	ops  []byte
	into func(l list) list
}

// foldings are those of the rule Constants.
func foldings() []shape {
	return []shape{
		{[]byte{api.OpInt, api.OpInt, api.OpAdd}, func(l list) list { return number(l[0].A + l[1].A) }},
		{[]byte{api.OpInt, api.OpInt, api.OpSub}, func(l list) list { return number(l[0].A - l[1].A) }},
		{[]byte{api.OpInt, api.OpInt, api.OpMul}, func(l list) list { return number(l[0].A * l[1].A) }},
		{[]byte{api.OpInt, api.OpNeg}, func(l list) list { return number(-l[0].A) }},
		{[]byte{api.OpBool, api.OpNot}, func(l list) list { return truth(l[0].A == 0) }},
		{[]byte{api.OpInt, api.OpInt, api.OpLess}, func(l list) list { return truth(l[0].A < l[1].A) }},
		{[]byte{api.OpInt, api.OpInt, api.OpSame}, alike},
		{[]byte{api.OpBool, api.OpBool, api.OpSame}, alike},
		{[]byte{api.OpInt, api.OpPop}, gone},
		{[]byte{api.OpBool, api.OpPop}, gone},
		{[]byte{api.OpNull, api.OpPop}, gone},
		{[]byte{api.OpDup, api.OpPop}, gone},
		{[]byte{api.OpNot, api.OpNot}, gone},
	}
}

// surenesses are those of the rule Sure.
func surenesses() []shape {
	return []shape{{[]byte{api.OpBool, api.OpUnless}, func(l list) list {
		if l[0].A == 1 {
			return nil
		}
		return list{{Op: api.OpJump, A: l[1].A}}
	}}}
}

// number is the instruction of a number, taken into 32 bits.
func number(n int) list { return list{{Op: api.OpInt, A: int(int32(n))}} }

func truth(is bool) list {
	if is {
		return list{{Op: api.OpBool, A: 1}}
	}
	return list{{Op: api.OpBool}}
}

func alike(l list) list { return truth(l[0].A == l[1].A) }

func gone(list) list { return nil }

// replaced lets shapes become what they do, from the first instruction on; what was taken, or came out, is passed over. What came out stands in the place of the first one: so who led there leads to it.
func replaced(l list, shapes []shape) list {
	all, led, out := slices.Clone(l), l.led(), make([]bool, len(l))
places:
	for i := 0; i < len(l); {
		for _, s := range shapes {
			if !s.stands(l, led, i) {
				continue
			}
			n := i + len(s.ops)
			came := s.into(l[i:n])
			copy(all[i:], came)
			for k := i + len(came); k < n; k++ {
				out[k] = true
			}
			i = n
			continue places
		}
		i++
	}
	return all.without(out)
}

// stands tells whether a shape is at a place, and none but its first instruction is led to.
func (s shape) stands(l list, led []bool, at int) bool {
	if at+len(s.ops) > len(l) {
		return false
	}
	for i, op := range s.ops {
		if l[at+i].Op != op || i > 0 && led[at+i] {
			return false
		}
	}
	return true
}
