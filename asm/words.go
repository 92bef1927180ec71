package asm

import (
	"strconv"
	"strings"

	"proviso/api"
	"proviso/code"
	"proviso/wire"
)

// maxOperands is how many operands an instruction has at most.
const maxOperands = 2

// operands is how many an instruction has.
func operands(op byte) int {
	switch {
	case op == api.OpGet || op == api.OpPut:
		return maxOperands
	case code.Size(op) > 1:
		return 1
	}
	return 0
}

// wordsOf is a line's words, its remark left out.
func wordsOf(line string) []string {
	said, _, _ := strings.Cut(line, ";")
	return strings.FieldsFunc(said, isBlank)
}

func isBlank(c rune) bool { return c == ' ' || c == '\t' }

// labelOf is the name of the label that a line's words are: false, if they are none.
func labelOf(words []string) (string, bool) {
	name, is := strings.CutSuffix(words[0], ":")
	return name, is && len(words) == 1 && wire.IsName(name)
}

// number is the number of a word, if that is its one form. One that no int holds comes out as the nearest that one does: no operand's range has it.
func number(word string) (int, bool) {
	if !isNumber(word) {
		return 0, false
	}
	n, _ := strconv.Atoi(word)
	return n, true
}

func isNumber(word string) bool {
	digits := strings.TrimPrefix(word, "-")
	if digits == "" || digits[0] == '0' && word != "0" {
		return false
	}
	for i := range len(digits) {
		if digits[i] < '0' || digits[i] > '9' {
			return false
		}
	}
	return true
}
