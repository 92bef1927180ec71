package lex_test

import (
	"slices"
	"strconv"
	"strings"
	"testing"

	"proviso/api"
	"proviso/lex"
)

// isBlanks tells whether a text is blanks alone.
func isBlanks(s string) bool { return blanks.FindString(s) == s }

func TestP10_4NothingIsLost(t *testing.T) {
	for src, l := range taken(t, 7, 10000) {
		end := 0
		for _, x := range l {
			if x.At < end || x.At >= x.End || x.End > len(src) || !isBlanks(src[end:x.At]) {
				t.Fatalf("%q: %v", src, l)
			}
			end = x.End
		}
		if !isBlanks(src[end:]) {
			t.Fatalf("%q: %v", src, l)
		}
	}
}

func TestP10_5ATokenByItself(t *testing.T) {
	for src, l := range taken(t, 11, 10000) {
		for _, x := range l {
			want := x
			want.At, want.End = 0, x.End-x.At
			if m, f := scan(t, src[x.At:x.End]); f.Why != api.OK || !slices.Equal(m, []api.Token{want}) {
				t.Fatalf("%q: %v, by itself %v", src, x, m)
			}
		}
	}
}

// anew is a token's text, written anew.
func anew(x api.Token) string {
	switch x.Kind {
	case api.TokName:
		return x.Text
	case api.TokNum:
		return strconv.Itoa(x.Num)
	}
	return lex.Word(x.Kind)
}

func TestP10_6BlanksPlayNoPart(t *testing.T) {
	for src, l := range taken(t, 13, 10000) {
		var parts []string
		for _, x := range l {
			parts = append(parts, anew(x))
		}
		for _, between := range []string{" ", "\n", " // remark\n", " //\n", "\t", "\r", " //é&_9\xff\n"} {
			m, f := scan(t, strings.Join(parts, between))
			if f.Why != api.OK || !slices.EqualFunc(l, m, func(a, b api.Token) bool { return a.Kind == b.Kind && a.Num == b.Num && a.Text == b.Text }) {
				t.Fatalf("%q: %v, %v", src, m, f)
			}
		}
	}
	if _, f := scan(t, strings.Repeat("a  ", 16384)+strings.Repeat(" ", 1<<15)); f.Why != api.ErrLong {
		t.Error("too long", f)
	}
}

func TestP10_7ABeginning(t *testing.T) {
	for src, l := range taken(t, 17, 10000) {
		for i, x := range l {
			if m, f := scan(t, src[:x.End]); f.Why != api.OK || !slices.Equal(m, l[:i+1]) {
				t.Fatalf("%q up to %d: %v, %v", src, x.End, m, f)
			}
		}
	}
}

func TestAnswersAreNewMemory(t *testing.T) {
	src := strings.Clone("fun f(n int) int { return n + 1; } // all of it")
	l, f := scan(t, src)
	if f.Why != api.OK {
		t.Fatal(f)
	}
	want := slices.Clone(l)
	m, _ := scan(t, src)
	m = m[:cap(m)]
	for i := range m {
		m[i] = api.Token{Kind: 77, Text: "spoilt"}
	}
	if again, _ := scan(t, src); !slices.Equal(l, want) || !slices.Equal(again, want) {
		t.Error("lists are shared", l, again)
	}
}

func TestAllEndsOfAllArguments(t *testing.T) {
	d := dice(19)
	for range 20000 {
		b := make([]byte, d.below(30))
		for i := range b {
			b[i] = byte(d.below(256))
			if d.below(2) == 0 {
				b[i] = pick(&d, []byte("a_1 /=&|\n<.\xc3\xa9"))
			}
		}
		isScanned(t, string(b))
		lex.Kind(string(b))
		lex.Line(string(b), d.below(99)-9)
	}
}
