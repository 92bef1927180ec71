package asm_test

import (
	"bytes"
	"fmt"
	"strings"
	"testing"

	"proviso/api"
)

func TestP23_2EachInstruction(t *testing.T) {
	isText(t, nil, "")
	isText(t, []byte{}, "")
	for _, r := range rows() {
		for _, n := range []int{0, 1} {
			b, text := []byte{r.op}, "  "+r.word
			for _, w := range r.widths {
				if r.jumps() {
					b, text = append(b, 0, 0), "l0:\n"+text+" l0"
					continue
				}
				b, text = append(b, spread(n, w)...), text+fmt.Sprint(" ", n)
			}
			isText(t, b, text+"\n")
		}
	}
}

func TestP23_2Numbers(t *testing.T) {
	isText(t, []byte{1, 0x7f, 255, 255, 255}, "  int 2147483647\n")
	isText(t, []byte{1, 0x80, 0, 0, 0}, "  int -2147483648\n")
	isText(t, []byte{1, 255, 255, 255, 255}, "  int -1\n")
	isText(t, []byte{1, 1, 2, 3, 4, 2, 0, 2, 1}, "  int 16909060\n  bool 0\n  bool 1\n")
	isText(t, []byte{24, 1, 2, 25, 255, 0, 24, 0, 128}, "  get 1 2\n  put 255 0\n  get 0 128\n")
	for n := range 256 {
		isText(t, []byte{4, byte(n), 32, byte(n)}, fmt.Sprintf("  load %d\n  trap %d\n", n, n))
	}
}

func TestP23_2Labels(t *testing.T) {
	isText(t, []byte{19, 0, 3, 0, 20, 0, 3, 20, 0, 4}, "  jump l3\nl3:\n  nop\nl4:\n  unless l3\n  unless l4\n")
	isText(t, []byte{0, 0, 19, 0, 1}, "  nop\nl1:\n  nop\n  jump l1\n")
	isText(t, []byte{0, 20, 0, 1}, "  nop\nl1:\n  unless l1\n")
	isText(t, []byte{22, 22}, "  return\n  return\n") // no label where nothing leads
	b := append([]byte{19, 15, 255}, make([]byte, 4093)...)
	isText(t, b, "  jump l4095\n"+strings.Repeat("  nop\n", 4092)+"l4095:\n  nop\n")
}

func TestP23_2CodeThatGoesOnBehindItsEnd(t *testing.T) {
	isText(t, []byte{0}, "  nop\n")
	isText(t, []byte{20, 0, 0}, "l0:\n  unless l0\n")
	isText(t, make([]byte, 4096), strings.Repeat("  nop\n", 4096))
}

func TestP23_2WhatScanRefuses(t *testing.T) {
	isNoText(t, make([]byte, 4097), 0, api.ErrLong)
	isNoText(t, bytes.Repeat([]byte{255}, 4097), 0, api.ErrLong)
	isNoText(t, bytes.Repeat([]byte{255}, 1<<20), 0, api.ErrLong)
	for _, ahead := range [][]byte{nil, {0}, {22, 4, 9}, make([]byte, 4090)} {
		for _, x := range []struct {
			b   []byte
			why api.Errno
		}{
			{[]byte{34}, api.ErrOp}, {[]byte{255, 0}, api.ErrOp}, {[]byte{1}, api.ErrShort}, {[]byte{1, 0, 0, 0}, api.ErrShort}, {[]byte{19, 0}, api.ErrShort}, {[]byte{24, 0}, api.ErrShort}, {[]byte{32}, api.ErrShort},
			{[]byte{2, 2}, api.ErrRange}, {[]byte{2, 255, 0}, api.ErrRange},
		} {
			isNoText(t, append(bytes.Clone(ahead), x.b...), len(ahead), x.why)
			if len(ahead) < 4000 { // ahead of a jump that leads astray
				isNoText(t, append(append(bytes.Clone(ahead), 19, 255, 255), x.b...), len(ahead)+3, x.why)
			}
		}
	}
	isNoText(t, []byte{0, 2, 2, 34}, 1, api.ErrRange) // the first one
	isNoText(t, []byte{0, 34, 2, 2}, 1, api.ErrOp)
}

func TestP23_2JumpsThatLeadAstray(t *testing.T) {
	for _, op := range []byte{19, 20} {
		isNoText(t, []byte{op, 0, 3}, 0, api.ErrTarget) // behind the end
		isNoText(t, []byte{op, 0, 1}, 0, api.ErrTarget) // into its own midst
		isNoText(t, []byte{op, 0, 2}, 0, api.ErrTarget)
		isNoText(t, []byte{op, 255, 255}, 0, api.ErrTarget)
		isNoText(t, []byte{op, 1, 0}, 0, api.ErrTarget)
		isNoText(t, []byte{4, 0, op, 0, 1}, 2, api.ErrTarget)
		isNoText(t, []byte{4, 0, op, 0, 0, op, 0, 3, op, 0, 1}, 5, api.ErrTarget) // the first of them
		isNoText(t, []byte{0, op, 0, 2}, 1, api.ErrTarget)
		isText(t, []byte{4, 19, 0, 22, 0}, "  load 19\n  nop\n  return\n  nop\n") // an operand is no jump
	}
}

// Every code of up to four bytes out of some.
func TestP23_2EveryShortCode(t *testing.T) {
	some := []byte{0, 1, 2, 3, 4, 19, 20, 22, 24, 33, 34, 255}
	seen := came{}
	var deep func(b []byte, left int)
	deep = func(b []byte, left int) {
		_, _, why := isPrinted(t, b)
		seen[why.Error()]++
		for _, c := range some {
			if left > 0 {
				deep(append(b[:len(b):len(b)], c), left-1)
			}
		}
	}
	deep(nil, 4)
	for _, begin := range [][]byte{{19, 0}, {0, 20, 0}, {1, 255, 255}, {19, 0, 3}} {
		deep(begin, 3)
	}
	seen.isMore(t, 50, api.OK, api.ErrOp, api.ErrShort, api.ErrRange, api.ErrTarget)
}

func TestP23_2HeldAgainstTheWords(t *testing.T) {
	d, seen := dice(3), came{}
	for range 10000 {
		b := sound(&d, d.Below(30))
		if d.Below(2) == 0 {
			for range d.Below(3) {
				if len(b) > 0 {
					b[d.Below(len(b))] = byte(d.Below(256) >> d.Below(8))
				}
			}
			b = b[:d.Below(len(b)+1)]
		}
		_, _, why := isPrinted(t, b)
		seen[why.Error()]++
	}
	seen.isMore(t, 50, api.OK, api.ErrOp, api.ErrShort, api.ErrRange, api.ErrTarget)
}
