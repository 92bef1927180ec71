package code

import (
	"math"
	"slices"

	"proviso/api"
)

// span is the numbers that an operand may be. An instruction that has no such operand has the zero span, 0 alone: just what the document asks of it.
type span struct{ least, most int }

func (s span) has(n int) bool { return n >= s.least && n <= s.most }

// spans are those of A and B.
func spans(op byte) (a, b span) {
	switch op {
	case api.OpGet, api.OpPut:
		b = span{0, math.MaxUint8}
		fallthrough // A is as of those that have no B
	case api.OpLoad, api.OpStore, api.OpCall, api.OpNew, api.OpCast, api.OpTest, api.OpTrap:
		a = span{0, math.MaxUint8}
	case api.OpBool:
		a = span{0, 1}
	case api.OpJump, api.OpUnless:
		a = span{0, math.MaxUint16}
	case api.OpInt:
		a = span{math.MinInt32, math.MaxInt32}
	}
	return a, b
}

func inSpans(in api.Instr) bool {
	a, b := spans(in.Op)
	return a.has(in.A) && b.has(in.B)
}

// Encode is an instruction's bytes.
func Encode(in api.Instr) ([]byte, api.Errno) {
	if !isOp(in.Op) {
		return nil, api.ErrOp
	}
	if !inSpans(in) {
		return nil, api.ErrRange
	}
	b := make([]byte, Size(in.Op))
	b[0] = in.Op
	a := 1 + widths[in.Op].a
	spread(b[1:a], in.A)
	spread(b[a:], in.B)
	return b, api.OK
}

// Decode is the instruction at an address.
func Decode(b []byte, at int) (api.Instr, api.Errno) {
	if at < 0 || at > len(b) {
		return api.Instr{}, api.ErrArg
	}
	b = b[at:]
	if len(b) == 0 {
		return api.Instr{}, api.ErrShort
	}
	op := b[0]
	if !isOp(op) {
		return api.Instr{}, api.ErrOp
	}
	if len(b) < Size(op) {
		return api.Instr{}, api.ErrShort
	}
	a := 1 + widths[op].a
	in := api.Instr{At: at, Op: op, A: gather(b[1:a]), B: gather(b[a:Size(op)])}
	if op == api.OpInt {
		in.A = int(int32(in.A)) // of all operands it alone goes below 0
	}
	if !inSpans(in) {
		return api.Instr{}, api.ErrRange
	}
	return in, api.OK
}

// All is the bytes of instructions, one behind another; else the place of the first one at fault.
func All(l []api.Instr) ([]byte, int, api.Errno) {
	var all []byte
	for i, in := range l {
		b, e := Encode(in)
		if e != api.OK {
			return nil, i, e
		}
		if len(all)+len(b) > api.MaxCode {
			return nil, i, api.ErrLong
		}
		all = append(all, b...)
	}
	return all, 0, api.OK
}

// Patch is code in which the jump at an address leads elsewhere.
func Patch(b []byte, at, target int) ([]byte, api.Errno) {
	if len(b) > api.MaxCode {
		return nil, api.ErrLong
	}
	in, e := Decode(b, at)
	if e != api.OK {
		return nil, e
	}
	if !Jumps(in.Op) {
		return nil, api.ErrArg
	}
	in.A = target
	jump, e := Encode(in)
	if e != api.OK {
		return nil, e
	}
	patched := slices.Clone(b)
	copy(patched[at:], jump)
	return patched, api.OK
}

// spread lays a number over all of b, its high byte first.
func spread(b []byte, n int) {
	for i := len(b) - 1; i >= 0; i-- {
		b[i] = byte(n)
		n >>= 8
	}
}

// gather is the number that spread laid there; of four bytes as if it were 0 or more.
func gather(b []byte) int {
	var n uint32
	for _, x := range b {
		n = n<<8 | uint32(x)
	}
	return int(n)
}
