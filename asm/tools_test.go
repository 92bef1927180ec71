package asm_test

import (
	"bytes"
	"fmt"
	"math"
	"strings"
	"testing"

	"proviso/api"
	"proviso/asm"
	"proviso/samples"
)

type dice = samples.Dice

func pick[T any](d *dice, l []T) T { return l[d.Below(len(l))] }

// row is an instruction as the table of chapter 4.1 has it.
type row struct {
	op     byte
	word   string
	widths []int // its operands' bytes
}

func (r row) size() int {
	n := 1
	for _, w := range r.widths {
		n += w
	}
	return n
}

func (r row) jumps() bool { return r.word == "jump" || r.word == "unless" }

// bounds are the least and the greatest number that an operand may be.
func (r row) bounds(i int) (least, most int) {
	switch {
	case r.word == "bool":
		return 0, 1
	case r.widths[i] == 4:
		return math.MinInt32, math.MaxInt32
	case r.widths[i] == 2:
		return 0, 65535
	}
	return 0, 255
}

var table = chapter4()

// rows is the table of chapter 4.1.
func rows() []row { return table }

func chapter4() []row {
	widths := map[string][]int{
		"int": {4}, "bool": {1}, "load": {1}, "store": {1}, "jump": {2}, "unless": {2}, "call": {1}, "new": {1}, "get": {1, 1}, "put": {1, 1}, "cast": {1}, "test": {1}, "trap": {1},
	}
	var l []row
	for op, word := range strings.Fields("nop int bool null load store pop dup swap add sub mul div rem neg less same not is jump unless call return new get put make len at set cast test trap tell") {
		l = append(l, row{byte(op), word, widths[word]})
	}
	return l
}

func rowOf(word string) (row, bool) {
	for _, r := range rows() {
		if r.word == word {
			return r, true
		}
	}
	return row{}, false
}

// spread is a number's bytes, the highest first.
func spread(n, width int) []byte {
	b := make([]byte, width)
	for i := range b {
		b[i] = byte(n >> (8 * (width - 1 - i)))
	}
	return b
}

// isCode holds a text to its code.
func isCode(t *testing.T, src string, want ...byte) {
	t.Helper()
	if b, line, why := asm.Parse(src); !bytes.Equal(b, want) || line != 0 || why != api.OK {
		t.Errorf("%.80q: % x, %d, %v; wanted % x", src, b, line, why, want)
	}
}

// isFault holds a text to its fault.
func isFault(t *testing.T, src string, line int, want api.Errno) {
	t.Helper()
	if b, n, why := asm.Parse(src); len(b) > 0 || n != line || why != want {
		t.Errorf("%.80q: %d bytes, %d, %v; wanted %d, %v", src, len(b), n, why, line, want)
	}
}

// isText holds code to its text.
func isText(t *testing.T, b []byte, want string) {
	t.Helper()
	if s, at, why := asm.Print(b); s != want || at != 0 || why != api.OK {
		t.Errorf("% .80x: %.200q, %d, %v; wanted %.200q", b, s, at, why, want)
	}
}

// isNoText holds code to its fault.
func isNoText(t *testing.T, b []byte, at int, want api.Errno) {
	t.Helper()
	if s, n, why := asm.Print(b); s != "" || n != at || why != want {
		t.Errorf("% .80x: %.80q, %d, %v; wanted %d, %v", b, s, n, why, at, want)
	}
}

// isAsTold holds Parse to the chapter told over again: what it answered.
func isAsTold(t *testing.T, src string) ([]byte, int, api.Errno) {
	t.Helper()
	b, line, why := asm.Parse(src)
	if c, n, e := codeTold(src); !bytes.Equal(b, c) || line != n || why != e {
		t.Fatalf("%q: % x, %d, %v; wanted % x, %d, %v", src, b, line, why, c, n, e)
	}
	return b, line, why
}

// isPrinted holds Print to the chapter told over again: what it answered.
func isPrinted(t *testing.T, b []byte) (string, int, api.Errno) {
	t.Helper()
	s, at, why := asm.Print(b)
	if c, n, e := textTold(b); s != c || at != n || why != e {
		t.Fatalf("% x: %q, %d, %v; wanted %q, %d, %v", b, s, at, why, c, n, e)
	}
	return s, at, why
}

// sound is code of n instructions, as the dice fall, all of whose jumps lead to instructions.
func sound(d *dice, n int) []byte {
	var b []byte
	var at, jumps []int
	for range n {
		r := pick(d, rows())
		if d.Below(4) == 0 {
			r = rows()[19+d.Below(2)]
		}
		at = append(at, len(b))
		if r.jumps() {
			jumps = append(jumps, len(b))
		}
		b = append(b, r.op)
		for i, w := range r.widths {
			least, most := r.bounds(i)
			b = append(b, spread(pick(d, []int{least, most, 0, 1, d.Below(2), least + d.Below(most-least+1)}), w)...)
		}
	}
	for _, j := range jumps {
		copy(b[j+1:], spread(pick(d, at), 2))
	}
	return b
}

func lines(l ...string) string { return strings.Join(l, "\n") }

// nops is a text of so many of them, a line each.
func nops(n int) string { return strings.Repeat("nop\n", n) }

// came counts what came of something, for a test to tell whether it was tried at all.
type came map[string]int

func (c came) isMore(t *testing.T, n int, words ...any) {
	t.Helper()
	for _, w := range words {
		if c[fmt.Sprint(w)] < n {
			t.Error("hardly comes: ", w, c[fmt.Sprint(w)])
		}
	}
}
