package asm_test

import (
	"bytes"
	"fmt"
	"strconv"
	"strings"
	"testing"

	"proviso/api"
	"proviso/asm"
	"proviso/gen"
	"proviso/samples"
)

// isBack holds code to come back from its own text, and the text from that.
func isBack(t *testing.T, b []byte) {
	t.Helper()
	text, at, why := asm.Print(b)
	if at != 0 || why != api.OK {
		t.Fatal(b, at, why)
	}
	if len(text) > 65536 {
		t.Fatal("too long a text", len(text))
	}
	c, line, why := asm.Parse(text)
	if !bytes.Equal(c, b) || line != 0 || why != api.OK {
		t.Fatalf("% x: % x, %d, %v", b, c, line, why)
	}
	if again, _, _ := asm.Print(c); again != text {
		t.Fatalf("%q, %q", again, text)
	}
}

func TestP23_3ThereAndBack(t *testing.T) {
	d := dice(4)
	isBack(t, nil)
	for range 5000 {
		isBack(t, sound(&d, d.Below(40)))
	}
	for range 20 {
		b := sound(&d, 1300)
		if len(b) <= 4096 {
			isBack(t, b)
		}
	}
	isBack(t, bytes.Repeat([]byte{api.OpReturn}, 4096)) // the longest text of all
	jumps := bytes.Repeat([]byte{api.OpUnless, 0, 0}, 1365)
	for i := range 1365 {
		copy(jumps[3*i+1:], spread(3*(1364-i), 2))
	}
	isBack(t, jumps)
}

func TestP23_3WhatTheProducerMakes(t *testing.T) {
	d, functions := dice(5), 0
	for range 200 {
		m, err := gen.Compile("m", samples.Source(&d, 8))
		if err != nil {
			continue
		}
		for _, f := range m.Funcs {
			isBack(t, f.Code)
			functions++
		}
		for _, f := range samples.Module(&d, 2).Funcs {
			isBack(t, f.Code)
		}
	}
	if functions < 200 {
		t.Error("hardly tried", functions)
	}
}

// P5: of a text that Parse takes Print tells the one form, which is the same code.
func TestP5AsmPrintsWhatItReads(t *testing.T) {
	d, taken := dice(6), 0
	for range 20000 {
		var l []string
		for range d.Below(8) {
			l = append(l, someLine(&d))
		}
		b, _, why := asm.Parse(lines(l...))
		if why == api.OK {
			taken++
			isBack(t, b)
		}
	}
	if taken < 2000 {
		t.Error("hardly taken", taken)
	}
	for _, text := range []string{
		"", "  nop\n", "l0:\n  jump l0\n", "  int -5\n  pop\n  return\n", "l0:\n  load 0\n  unless l0\n  get 1 2\n", "  bool 1\n  unless l8\n  jump l9\nl8:\n  return\nl9:\n  trap 3\n",
	} {
		b, line, why := asm.Parse(text)
		if line != 0 || why != api.OK {
			t.Error(text, line, why)
		}
		isText(t, b, text)
	}
}

// drawn is a text as lists of words, which may be written in many ways.
type drawn [][]string

func drawnBy(d *dice, n int) drawn {
	var x drawn
	for range n {
		line, _, _ := strings.Cut(someLine(d), ";")
		x = append(x, strings.Fields(strings.ReplaceAll(line, "\r", "?")))
	}
	return x
}

// renamed gives each label another name, unlike ones unlike names.
func (x drawn) renamed(d *dice) drawn {
	names := map[string]string{}
	other := func(name string) string {
		if names[name] == "" {
			names[name] = pick(d, []string{"n", "N", "nop", "l", "z_", strings.Repeat("m", 20)}) + strconv.Itoa(len(names)+d.Below(3)*100)
		}
		return names[name]
	}
	var y drawn
	for _, words := range x {
		words = append([]string(nil), words...)
		if len(words) == 1 && aLabel.MatchString(words[0]) {
			words[0] = other(strings.TrimSuffix(words[0], ":")) + ":"
		}
		if r, _ := rowOf(append(words, "")[0]); r.jumps() && len(words) == 2 && aName.MatchString(words[1]) {
			words[1] = other(words[1])
		}
		y = append(y, words)
	}
	return y
}

// written is the text, with blanks, remarks and lines without words as the dice fall; and for each of its lines the number of the one that it is of x.
func (x drawn) written(d *dice) (string, []int) {
	text, of := "", []int{0}
	blanks := func(least int) string { return strings.Repeat(pick(d, []string{" ", "\t", " \t"}), least+d.Below(3)) }
	remark := func() string {
		return pick(d, []string{"", "", ";", "; nop", ";a:", " ;; x\xff\r", ";\x00", "\t;\tint 07"})
	}
	for i, words := range x {
		for range d.Below(3) {
			text += blanks(0) + remark() + "\n"
			of = append(of, 0)
		}
		text += blanks(0)
		for k, w := range words {
			if k > 0 {
				text += blanks(1)
			}
			text += w
		}
		text += blanks(0) + remark() + "\n"
		of = append(of, i+1)
	}
	if d.Below(2) == 0 {
		text = strings.TrimSuffix(text, "\n")
	}
	return text, of
}

// plain is the text with a blank between words, and nothing beside.
func (x drawn) plain() string {
	var l []string
	for _, words := range x {
		l = append(l, strings.Join(words, " "))
	}
	return lines(l...)
}

func TestP23_4LabelsNamesPlayNoPart(t *testing.T) {
	d, seen := dice(7), came{}
	for range 15000 {
		x := drawnBy(&d, d.Below(10))
		b, line, why := asm.Parse(x.plain())
		seen[why.Error()]++
		text, of := x.renamed(&d).written(&d)
		c, other, e := asm.Parse(text)
		if !bytes.Equal(b, c) || why != e || of[other] != line {
			t.Fatalf("%q: % x, %d, %v; %q: % x, %d, %v", x.plain(), b, line, why, text, c, other, e)
		}
	}
	seen.isMore(t, 500, api.OK, api.ErrLine, api.ErrLabel, api.ErrRange)
}

func TestNothingHandedInIsChanged(t *testing.T) {
	d := dice(8)
	for range 500 {
		b := sound(&d, 1+d.Below(20))
		if d.Below(3) == 0 {
			b[d.Below(len(b))] = byte(d.Below(256))
		}
		behind := append(bytes.Clone(b), 99, 99, 99, 99)
		was := bytes.Clone(behind)
		one, at, why := asm.Print(behind[:len(b)])
		if two, n, e := asm.Print(bytes.Clone(b)); one != two || at != n || why != e || !bytes.Equal(behind, was) {
			t.Fatal(b, one, two)
		}
	}
	isNoText(t, []byte{19, 0, 3, 22}[:3], 0, api.ErrTarget) // what stands behind the end plays no part
	isNoText(t, []byte{4, 0}[:1], 0, api.ErrShort)
	isText(t, []byte{0, 255}[:1], "  nop\n")
}

func TestAnswersAreNewMemory(t *testing.T) {
	const text = "a:\n int 7\n jump a\n get 1 2\n"
	one, _, _ := asm.Parse(text)
	two, _, _ := asm.Parse(text)
	was := bytes.Clone(two)
	samples.Overwrite(one, 99)
	if three, _, _ := asm.Parse(text); !bytes.Equal(two, was) || !bytes.Equal(three, was) {
		t.Error(two, three)
	}
	printed, _, _ := asm.Print(two)
	kept := strings.Clone(printed)
	samples.Overwrite(two, 99)
	if printed != kept {
		t.Error(printed)
	}
}

// TestNotFromTheOrderOfAMap: many labels, asked again and again.
func TestNotFromTheOrderOfAMap(t *testing.T) {
	text := ""
	for i := range 600 {
		text += fmt.Sprintf("x%d:\n jump x%d\n", i, 599-i)
	}
	first, _, why := asm.Parse(text)
	if why != api.OK {
		t.Fatal(why)
	}
	printed, _, _ := asm.Print(first)
	for range 20 {
		b, _, _ := asm.Parse(text)
		if s, _, _ := asm.Print(b); !bytes.Equal(b, first) || s != printed {
			t.Fatal("another one")
		}
		isFault(t, text+" jump gone\n jump away\n unless far\n", 1201, api.ErrLabel)
	}
}

func TestAllEndsOfAllArguments(t *testing.T) {
	d := dice(9)
	for range 3000 {
		b := make([]byte, d.Below(60))
		for i := range b {
			b[i] = byte(d.Below(256) >> d.Below(8))
		}
		isAsTold(t, string(b))
		isPrinted(t, b)
	}
	for _, c := range []byte{0, 9, 10, 32, ';', ':', '-', '0', 'a', 255} {
		for _, n := range []int{1, 2, 24, 25, 65535, 65536, 65537, 1 << 20} {
			isAsTold(t, string(bytes.Repeat([]byte{c}, n)))
		}
	}
}
