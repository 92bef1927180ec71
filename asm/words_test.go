package asm_test

import (
	"fmt"
	"math/big"
	"regexp"
	"slices"
	"strings"

	"proviso/api"
)

// Chapter 23 over again, by its words.

var (
	aName   = regexp.MustCompile(`\A[a-zA-Z][a-zA-Z0-9_]{0,23}\z`)
	aLabel  = regexp.MustCompile(`\A[a-zA-Z][a-zA-Z0-9_]{0,23}:\z`)
	aNumber = regexp.MustCompile(`\A(0|-?[1-9][0-9]*)\z`)
)

// linesTold parts a text into lines, and these into words.
func linesTold(src string) [][]string {
	var all [][]string
	var words []string
	begin, remark := -1, false // where the word begins, if one does
	end := func(at int) {
		if begin >= 0 {
			words = append(words, src[begin:at])
		}
		begin = -1
	}
	for i := range len(src) {
		switch c := src[i]; {
		case c == 10:
			end(i)
			all, words, remark = append(all, words), nil, false
		case c == ';':
			end(i)
			remark = true
		case c == 32 || c == 9:
			end(i)
		case !remark && begin < 0:
			begin = i
		}
	}
	end(len(src))
	return append(all, words)
}

// isLine tells whether words are an instruction with as many operands as it has, of the form that they have.
func isLine(words []string) (row, bool) {
	r, is := rowOf(words[0])
	if !is || len(words) != 1+len(r.widths) {
		return r, false
	}
	form := aNumber
	if r.jumps() {
		form = aName
	}
	return r, !slices.ContainsFunc(words[1:], func(w string) bool { return !form.MatchString(w) })
}

// codeTold is P23.1.
func codeTold(src string) ([]byte, int, api.Errno) {
	if len(src) > 65536 {
		return nil, 0, api.ErrLong
	}
	type waits struct {
		line, at int
		label    string
	}
	var code []byte
	var jumps []waits
	labels := map[string]int{}
	for i, words := range linesTold(src) {
		if len(words) == 0 {
			continue
		}
		if len(words) == 1 && aLabel.MatchString(words[0]) {
			name := strings.TrimSuffix(words[0], ":")
			if _, is := labels[name]; is {
				return nil, i + 1, api.ErrLabel
			}
			labels[name] = len(code)
			continue
		}
		r, is := isLine(words)
		if !is {
			return nil, i + 1, api.ErrLine
		}
		at := len(code)
		code = append(code, r.op)
		for k, w := range r.widths {
			n := new(big.Int)
			if r.jumps() {
				jumps = append(jumps, waits{i + 1, at, words[1]})
			} else {
				n.SetString(words[1+k], 10)
			}
			least, most := r.bounds(k)
			if n.Cmp(big.NewInt(int64(least))) < 0 || n.Cmp(big.NewInt(int64(most))) > 0 {
				return nil, i + 1, api.ErrRange
			}
			code = append(code, spread(int(n.Int64()), w)...)
		}
		if len(code) > 4096 {
			return nil, i + 1, api.ErrLong
		}
	}
	for _, j := range jumps {
		to, is := labels[j.label]
		if !is || to == len(code) {
			return nil, j.line, api.ErrLabel
		}
		copy(code[j.at+1:], spread(to, 2))
	}
	return code, 0, api.OK
}

// placed is an instruction at an address, with its operands.
type placed struct {
	row
	at     int
	values []int
}

// scanTold is what chapters 4 and 5 say of code: its instructions, or the address of the first one that can't be.
func scanTold(b []byte) ([]placed, int, api.Errno) {
	if len(b) > 4096 {
		return nil, 0, api.ErrLong
	}
	var l []placed
	for at := 0; at < len(b); {
		if b[at] > 33 {
			return nil, at, api.ErrOp
		}
		x := placed{row: rows()[b[at]], at: at}
		next := at + x.size()
		if next > len(b) {
			return nil, at, api.ErrShort
		}
		at++
		for _, w := range x.widths {
			n := 0
			for _, c := range b[at : at+w] {
				n = n*256 + int(c)
			}
			if w == 4 && n >= 1<<31 {
				n -= 1 << 32
			}
			x.values = append(x.values, n)
			at += w
		}
		if x.word == "bool" && x.values[0] > 1 {
			return nil, x.at, api.ErrRange
		}
		l = append(l, x)
	}
	return l, 0, api.OK
}

// textTold is P23.2.
func textTold(b []byte) (string, int, api.Errno) {
	l, at, why := scanTold(b)
	if why != api.OK {
		return "", at, why
	}
	led := map[int]bool{}
	for _, x := range l {
		if !x.jumps() {
			continue
		}
		if !slices.ContainsFunc(l, func(y placed) bool { return y.at == x.values[0] }) {
			return "", x.at, api.ErrTarget
		}
		led[x.values[0]] = true
	}
	text := ""
	for _, x := range l {
		if led[x.at] {
			text += fmt.Sprintf("l%d:\n", x.at)
		}
		text += "  " + x.word
		for _, n := range x.values {
			mark := " "
			if x.jumps() {
				mark = " l"
			}
			text += fmt.Sprint(mark, n)
		}
		text += "\n"
	}
	return text, 0, api.OK
}
