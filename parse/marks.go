package parse

import "proviso/api"

// The grammar's levels: what stands on one has parts of its own and of the higher ones alone, unless they stand in parentheses.
const (
	levelOr = 1 + iota
	levelAnd
	levelHeld
	levelSum
	levelTerm
	levelUnary
	levelTail
)

// greatest is the number that is one with a minus sign right ahead of it.
const greatest = 1 << 31

// binary is a binary expression's kind, its mark's, and on which level it stands.
type binary struct{ op, mark, level int }

var binaries = [...]binary{
	{api.ExMul, api.TokTimes, levelTerm},
	{api.ExDiv, api.TokOver, levelTerm},
	{api.ExRem, api.TokRest, levelTerm},
	{api.ExAdd, api.TokPlus, levelSum},
	{api.ExSub, api.TokMinus, levelSum},
	{api.ExLess, api.TokLess, levelHeld},
	{api.ExMost, api.TokMost, levelHeld},
	{api.ExMore, api.TokMore, levelHeld},
	{api.ExLeast, api.TokLeast, levelHeld},
	{api.ExSame, api.TokSame, levelHeld},
	{api.ExUnlike, api.TokUnlike, levelHeld},
	{api.ExAnd, api.TokAnd, levelAnd},
	{api.ExOr, api.TokOr, levelOr},
}

// byMark is the binary expression whose mark is of a kind, if there is one.
func byMark(kind int) (binary, bool) {
	for _, b := range binaries {
		if b.mark == kind {
			return b, true
		}
	}
	return binary{}, false
}

// byOp is the binary expression of a kind, if there is one.
func byOp(op int) (binary, bool) {
	for _, b := range binaries {
		if b.op == op {
			return b, true
		}
	}
	return binary{}, false
}
