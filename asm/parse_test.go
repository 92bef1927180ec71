package asm_test

import (
	"fmt"
	"math"
	"slices"
	"strconv"
	"strings"
	"testing"

	"proviso/api"
	"proviso/asm"
)

func TestP23_1EachInstruction(t *testing.T) {
	for _, r := range rows() {
		line, want := r.word, []byte{r.op}
		for _, w := range r.widths {
			if r.jumps() {
				line += " x"
				want = append(want, 0, 0)
				continue
			}
			line += " 1"
			want = append(want, spread(1, w)...)
		}
		isCode(t, lines("x:", line), want...)
		isCode(t, lines("x:", "\t "+line+" "), want...)
		isFault(t, lines("x:", line+" 1"), 2, api.ErrLine)
		isFault(t, lines("x:", line+" x"), 2, api.ErrLine)
		isFault(t, lines("x:", line+" :"), 2, api.ErrLine)
		if len(r.widths) > 0 {
			isFault(t, lines("x:", line[:len(line)-2]), 2, api.ErrLine)
			isFault(t, lines("x:", r.word), 2, api.ErrLine)
			isFault(t, lines("x:", r.word+" 1 1 1"), 2, api.ErrLine)
		}
	}
}

func TestP23_1WhatIsNoLine(t *testing.T) {
	for _, line := range []string{
		"x", "NOP", "Nop", "nop nop", "no", "nops", "nop:nop", "halt", "l0", "1", "-", "-1", ":", "::", "a::", "a:b", "a: b", "a :", ": a", "a: nop", "nop a:", "1:", "_:", "_a:", "a-b:", "a.b:", "é:", "a\x00:",
		strings.Repeat("n", 25) + ":", strings.Repeat("n", 60000), "nop\r", "\r", "\v", "\f", "\x00", "\xa0", "\u00a0", "\u2003nop", "nop\u00a0", "int\v1", "int,1", "int 1,", "get 1,2", "get 12", "get 1 2 3", "//", "#", "nop:  nop", "\xff\xfe",
	} {
		isFault(t, line, 1, api.ErrLine)
		isFault(t, lines("", "nop", line, "x"), 3, api.ErrLine)
		isFault(t, " "+line+"\t; a remark\n", 1, api.ErrLine)
	}
}

func TestP23_1WhatIsNoNumber(t *testing.T) {
	for _, r := range rows() {
		if len(r.widths) == 0 || r.jumps() {
			continue
		}
		for _, word := range []string{
			"01", "00", "-0", "-00", "-01", "--1", "+1", "+0", "-", "+", "1-", "1_0", "0x1", "0b1", "1e1", "1.0", "a", "x1", "1x", "1:", "'1'", "１", "\xb1", "1\x00", "-a", "1\r", "0000000000000000000000", "0" + strings.Repeat("1", 60000),
		} {
			for i := range r.widths {
				operands := slices.Repeat([]string{"1"}, len(r.widths))
				operands[i] = word
				isFault(t, "nop\n"+r.word+" "+strings.Join(operands, " "), 2, api.ErrLine)
				for k := range operands {
					if k != i {
						operands[k] = "256" // out of its range, which is told behind
					}
				}
				isFault(t, "nop\n"+r.word+" "+strings.Join(operands, " "), 2, api.ErrLine)
			}
		}
	}
}

func TestP23_1WhatAJumpWants(t *testing.T) {
	for _, word := range []string{"jump", "unless"} {
		for _, to := range []string{"0", "1", "-1", "65535", "_", "_x", "1x", "x-", "x:", ":x", "é", "x.", "'x'", strings.Repeat("n", 25)} {
			isFault(t, lines("x:", word+" "+to), 2, api.ErrLine)
			isFault(t, lines("x:", word+" x", word+" "+to, "x:"), 3, api.ErrLine)
		}
		op := map[string]byte{"jump": 19, "unless": 20}[word]
		for _, to := range []string{"x", "X", "l0", "nop", "jump", "unless", "x_1", "a__", strings.Repeat("n", 24)} {
			isCode(t, lines(to+":", word+" "+to), op, 0, 0)
			isCode(t, lines("nop", to+":", word+" "+to), 0, op, 0, 1)
			isCode(t, lines(word+" "+to, to+":", "nop"), op, 0, 3, 0)
		}
	}
}

func TestP23_1Ranges(t *testing.T) {
	far := []string{"9223372036854775807", "9223372036854775808", "-9223372036854775808", "-9223372036854775809", "18446744073709551616", "18446744073709551617", "4294967296", "4294967297", "-4294967295", "1" + strings.Repeat("0", 60000), "-" + strings.Repeat("9", 60000)}
	for _, r := range rows() {
		if len(r.widths) == 0 || r.jumps() {
			continue
		}
		for i := range r.widths {
			least, most := r.bounds(i)
			line := func(word string) string {
				operands := slices.Repeat([]string{"0"}, len(r.widths))
				operands[i] = word
				return r.word + " " + strings.Join(operands, " ")
			}
			for _, n := range []int{least, least + 1, most - 1, most, 0, 1} {
				want := []byte{r.op}
				for k, w := range r.widths {
					if k == i {
						want = append(want, spread(n, w)...)
					} else {
						want = append(want, make([]byte, w)...)
					}
				}
				isCode(t, line(strconv.Itoa(n)), want...)
			}
			for _, n := range []int{least - 1, least - 2, most + 1, most + 2, -65536, 65536, math.MinInt32 - 1, math.MaxInt32 + 1, math.MaxUint32, math.MinInt, math.MaxInt} {
				if n < least || n > most {
					isFault(t, "\n"+line(strconv.Itoa(n)), 2, api.ErrRange)
				}
			}
			for _, word := range far {
				isFault(t, "\n"+line(word), 2, api.ErrRange)
			}
		}
	}
}

func TestP23_1EachByteOfAnOperand(t *testing.T) {
	for n := -3; n < 260; n++ {
		text := strconv.Itoa(n)
		if n < 0 || n > 255 {
			isFault(t, "load "+text, 1, api.ErrRange)
			isFault(t, "get "+text+" 7", 1, api.ErrRange)
			isFault(t, "put 7 "+text, 1, api.ErrRange)
			continue
		}
		isCode(t, "load "+text, 4, byte(n))
		isCode(t, "get "+text+" 7", 24, byte(n), 7)
		isCode(t, "put 7 "+text, 25, 7, byte(n))
	}
	isCode(t, "int 16909060", 1, 1, 2, 3, 4)
	isCode(t, "int -2", 1, 255, 255, 255, 254)
}

func TestP23_1Labels(t *testing.T) {
	isCode(t, "x:")
	isCode(t, lines("x:", "y:", "z:", ""))
	isCode(t, lines("nop", "x:"), 0)
	isFault(t, lines("x:", "x:"), 2, api.ErrLabel)
	isFault(t, lines("x:", "y:", "nop", "", "x:", "y:"), 5, api.ErrLabel)
	isFault(t, lines("x:", "jump x", "x:"), 3, api.ErrLabel)
	isCode(t, lines("x:", "X:", "x_:", "x1:", "jump X"), 19, 0, 0)
	isCode(t, lines("jump z", "x:", "y:", "", "; none", "z:", "nop"), 19, 0, 3, 0) // one address
	isCode(t, lines("nop", "x:", "y:", "unless y", "unless x", "jump y"), 0, 20, 0, 1, 20, 0, 1, 19, 0, 1)
	isCode(t, lines("nop", "return:", "return", "jump return"), 0, 22, 19, 0, 1)
}

func TestP23_1LabelsThatAreMissing(t *testing.T) {
	isFault(t, "jump x", 1, api.ErrLabel)
	isFault(t, lines("nop", "jump x", "X:", "nop"), 2, api.ErrLabel)
	isFault(t, lines("x:", "jump x", "unless y", "jump z"), 3, api.ErrLabel)
	isFault(t, lines("nop", "jump x", "x:"), 2, api.ErrLabel)
	isFault(t, lines("nop", "jump x", "y:", "x:", "", "; nop"), 2, api.ErrLabel)
	isFault(t, lines("a:", "unless b", "jump a", "unless c", "b:", "c:"), 2, api.ErrLabel)
	isFault(t, lines("a:", "unless a", "jump c", "unless b", "b:", "c:"), 3, api.ErrLabel)
	isFault(t, lines("jump a", "jump b", "b:"), 1, api.ErrLabel) // one that isn't there, one that nothing stands behind: the first line
	isFault(t, lines("jump b", "jump a", "b:"), 1, api.ErrLabel)
	isCode(t, lines("a:", "jump a", "b:", "c:"), 19, 0, 0) // nothing leads there
}

func TestP23_1LineByLine(t *testing.T) {
	faults := []struct {
		line string
		why  api.Errno
	}{{"pop 1", api.ErrLine}, {"a:", api.ErrLabel}, {"load 256", api.ErrRange}, {"bool 2", api.ErrRange}}
	for _, x := range faults {
		for _, y := range faults {
			isFault(t, lines("a:", x.line, y.line), 2, x.why)
			isFault(t, lines("a:", "nop", x.line, "", y.line), 3, x.why)
		}
		isFault(t, lines("a:", "jump gone", x.line), 3, x.why) // jumps are led when all lines were read
		isFault(t, lines("a:", "jump end", x.line, "end:"), 3, x.why)
		isFault(t, lines("a:", nops(4096)+x.line), 4098, x.why)
		isFault(t, lines("a:", nops(4097)+x.line), 4098, api.ErrLong)
		isFault(t, lines("a:", nops(1), x.line, nops(4097)), 4, x.why)
	}
	isFault(t, lines("get 256 x"), 1, api.ErrLine)
	isFault(t, lines("jump x", nops(4094)), 4095, api.ErrLong)
}

func TestP23_1MostBytesOfCode(t *testing.T) {
	isCode(t, nops(4095), make([]byte, 4095)...)
	isCode(t, nops(4096), make([]byte, 4096)...)
	isCode(t, nops(4096)+"x:\n ; nop\n", make([]byte, 4096)...)
	isFault(t, nops(4097), 4097, api.ErrLong)
	isFault(t, nops(5000), 4097, api.ErrLong)
	for _, r := range rows() {
		line := r.word + strings.Repeat(map[bool]string{true: " x", false: " 1"}[r.jumps()], len(r.widths))
		for room := range 7 {
			src := "x:\n" + nops(4096-room) + line
			if room < r.size() {
				isFault(t, src, 4098-room, api.ErrLong)
			} else if b, n, why := asm.Parse(src); len(b) != 4096-room+r.size() || n != 0 || why != api.OK {
				t.Error(r.word, room, len(b), n, why)
			}
		}
		if len(r.widths) > 0 && !r.jumps() { // ahead of the length
			isFault(t, nops(4096)+r.word+strings.Repeat(" -2147483649", len(r.widths)), 4097, api.ErrRange)
		}
	}
	isCode(t, "jump x\n"+nops(4092)+"x:\nnop", append([]byte{19, 15, 255}, make([]byte, 4093)...)...)
	isFault(t, "jump x\n"+nops(4093)+"x:\n", 1, api.ErrLabel)
}

func TestP23_1MostBytesOfText(t *testing.T) {
	fill := func(s string, n int) string { return s + strings.Repeat(";", n-len(s)) }
	isCode(t, fill("nop\n", 65536), 0)
	isFault(t, fill("nop\n", 65537), 0, api.ErrLong)
	isFault(t, fill("no\n", 65536), 1, api.ErrLine)
	isFault(t, fill("no\n", 65537), 0, api.ErrLong) // ahead of all lines
	isCode(t, strings.Repeat("\n", 65536))
	isFault(t, strings.Repeat("\n", 65535)+"x", 65536, api.ErrLine)
	isFault(t, strings.Repeat("\n", 65537), 0, api.ErrLong)
	isFault(t, strings.Repeat("x:\n", 1<<20), 0, api.ErrLong)
	isCode(t, strings.Repeat(" ", 65533)+"pop", 6)
	isCode(t, fill("jump a\na:\nnop;", 65536), 19, 0, 3, 0)
}

func TestP23_1BlanksAndRemarks(t *testing.T) {
	isCode(t, "")
	isCode(t, "\n")
	isCode(t, "\n\n\n")
	isCode(t, " \t \n\t")
	isCode(t, ";")
	isCode(t, "; nop\n;;; x\n ; \xff\r\x00 ;")
	isCode(t, "nop", 0)
	isCode(t, "nop\n", 0)
	isCode(t, "\t\tnop\t", 0)
	isCode(t, "nop;nop", 0)
	isCode(t, "nop;\nnop", 0, 0)
	isCode(t, "get\t1 \t 2;3", 24, 1, 2)
	isFault(t, "get 1;2", 1, api.ErrLine)
	isFault(t, "get 1\n2", 1, api.ErrLine)
	isFault(t, "get;1 2", 1, api.ErrLine)
	isCode(t, "a:;b:\njump a;b", 19, 0, 0)
	isFault(t, "a;:", 1, api.ErrLine)
	isFault(t, "; nop\nx", 2, api.ErrLine)
	isFault(t, "nop \\\n x", 1, api.ErrLine)
}

func TestExamplesOfChapter23(t *testing.T) {
	const text = "l0:\n  load 0\n  jump l0\n"
	isCode(t, text, 4, 0, 0x13, 0, 0)
	isText(t, []byte{4, 0, 0x13, 0, 0}, text)
	isCode(t, strings.TrimSuffix(text, "\n"), 4, 0, 0x13, 0, 0)
	isFault(t, "  jump x", 1, api.ErrLabel)
	isFault(t, "x:\nx:", 2, api.ErrLabel)
	isFault(t, "  int 01", 1, api.ErrLine)
	isFault(t, "  int 3000000000", 1, api.ErrRange)
	isFault(t, "  pop 1", 1, api.ErrLine)
	isFault(t, "load", 1, api.ErrLine)
	isFault(t, "  jump 0", 1, api.ErrLine)
}

// Every text of up to five of some pieces.
func TestP23_1EveryShortText(t *testing.T) {
	pieces := []string{"a", ":", " ", "\n", ";", "nop", "jump", "get", "0", "1", "-"}
	seen := came{}
	var deep func(src string, left int)
	deep = func(src string, left int) {
		_, _, why := isAsTold(t, src)
		seen[why.Error()]++
		for _, p := range pieces {
			if left > 0 {
				deep(src+p, left-1)
			}
		}
	}
	deep("", 5)
	for _, begin := range []string{"a:\njump ", "jump a\n", "nop\na:", "get 1 ", "a:\nb:\n"} {
		deep(begin, 3)
	}
	seen.isMore(t, 3, api.OK, api.ErrLine, api.ErrLabel)
}

// someLine is a line that a text may have, more often than not; most labels are a, b or c.
func someLine(d *dice) string {
	label := pick(d, []string{"a", "b", "c", "a", "b", "c", "l7", "jump", "x_"})
	r := pick(d, rows())
	switch n := d.Below(20); {
	case n < 3:
		return label + ":"
	case n < 8:
		return pick(d, []string{"jump ", "unless "}) + label
	case n == 8:
		return pick(d, []string{"", " ", "\t", "; nop", ";", "nop;nop"})
	case n == 9 && d.Below(3) == 0:
		return pick(d, []string{"x", "a: nop", "nop 1", "jump", "jump 1", "int 007", "int -0", "get 1", "int 1 2", "a :", "nop\r", "int +1"})
	case n == 9:
		return pick(d, []string{"int 2147483648", "int -2147483649", "bool 2", "load -1", "load 256", "put 1 256", "get 999999999999999999999 1"})
	}
	line := r.word
	for i := range r.widths {
		if r.jumps() {
			return line + " " + label
		}
		least, most := r.bounds(i)
		line += fmt.Sprint(" ", pick(d, []int{least, most, 0, 1}))
	}
	return line
}

func TestP23_1HeldAgainstTheWords(t *testing.T) {
	d, seen := dice(1), came{}
	for range 30000 {
		var l []string
		for range d.Below(12) {
			l = append(l, strings.Repeat(" ", d.Below(3))+someLine(&d))
		}
		_, _, why := isAsTold(t, lines(l...))
		seen[why.Error()]++
	}
	seen.isMore(t, 1000, api.OK, api.ErrLine, api.ErrLabel, api.ErrRange)
	for range 100 { // about as many bytes as code may have
		var l []string
		for i := range 1300 + d.Below(900) {
			if line := someLine(&d); d.Below(1000) == 0 {
				l = append(l, line)
			} else {
				l = append(l, pick(&d, []string{"nop", "int 7", "load 3", "jump a", "a" + strconv.Itoa(i) + ":"}))
			}
		}
		l = append(l, "a:", "nop")
		_, _, why := isAsTold(t, lines(l...))
		seen["long "+why.Error()]++
	}
	seen.isMore(t, 5, "long "+api.OK.Error(), "long "+api.ErrLong.Error())
}

// Texts of which a byte or two are others.
func TestP23_1Turned(t *testing.T) {
	d, seen := dice(2), came{}
	for range 20000 {
		src := []byte(lines("a:", "  get 1 2", "  unless b ; on", "  int -2147483648", "\tjump a", "b:", "c:", "  bool 1", "  return", ""))
		for range 1 + d.Below(2) {
			src[d.Below(len(src))] = pick(&d, []byte{0, 9, 10, 13, 32, ';', ':', '-', '_', '0', '1', '9', 'a', 'b', 'Z', 127, 128, 255})
		}
		_, _, why := isAsTold(t, string(src))
		seen[why.Error()]++
	}
	seen.isMore(t, 100, api.OK, api.ErrLine, api.ErrLabel, api.ErrRange)
}
