package parse_test

import (
	"strings"
	"testing"

	"proviso/api"
	"proviso/lex"
)

func TestP11_1TheTreeOfAText(t *testing.T) {
	d := dice(1)
	for range 6000 {
		w := newWriter(&d)
		want := w.program(grower{&d}.program())
		src := w.text.String()
		if p, f := parsed(t, src); f != (api.Fault{}) || !alike(p, want) {
			t.Fatalf("%q: %v\n%v\nwanted\n%v", src, f, p, want)
		}
	}
}

func TestP11_1TheTreeOfAnExpression(t *testing.T) {
	d := dice(2)
	for i := range 20000 {
		w := newWriter(&d)
		want := w.expr(grower{&d}.expr(i%6), anExpr0)
		src := w.text.String()
		if w.tooDeep >= 0 {
			continue
		}
		if e, f := anExpr(t, src); f != (api.Fault{}) || !alike(e, want) {
			t.Fatalf("%q: %v\n%v\nwanted\n%v", src, f, e, want)
		}
	}
}

// begins are texts within which tokens are tried one behind another, and the grammar's part that all of it must be.
func begins() map[string]string {
	return map[string]string{"": "program", "record": "program", "record p : q { x int": "program", "fun f": "program", "fun f(a b) {": "program", "fun f() { if a { } ": "program", "fun f() { a . b": "program", "fun f() { f ( 1 )": "program", "fun f() { ( f ( )": "program", "fun f() { var": "program",
		" ": "expr", "a": "expr", "new": "expr", "f (": "expr", "a [ b": "expr", "a <": "expr"}
}

// aToken is one of each kind.
func aToken(kind int) string {
	switch kind {
	case api.TokName:
		return "n"
	case api.TokNum:
		return "2147483648"
	}
	return lex.Word(kind)
}

func TestP11_1EachShortRowOfTokens(t *testing.T) {
	r := chapter()
	for begin, part := range begins() {
		c := r.begin(part)
		tokens, err := lex.Scan(begin)
		if err != nil {
			t.Fatal(begin, err)
		}
		for _, x := range tokens {
			if !c.read(x.Kind) {
				t.Fatal(begin)
			}
		}
		eachRow(t, c, part, begin, 3)
	}
}

// eachRow tries all tokens behind a text that begins a part, and all behind those that can stand there.
func eachRow(t *testing.T, c *chart, part, src string, left int) {
	for kind := api.TokName; kind < api.NumTok; kind++ {
		text := src + " " + aToken(kind)
		if !c.read(kind) {
			isWrong(t, part, text, len(src)+1)
			isWrong(t, part, text+" } ) x 1 fun", len(src)+1)
			continue
		}
		if !c.whole(part) {
			isWrong(t, part, text, len(text))
			isWrong(t, part, text+" // at the end\n", len(text)+15)
		} else if f := fault(t, part, text); f != (api.Fault{}) {
			t.Fatalf("%q: %v", text, f)
		}
		if left > 1 {
			eachRow(t, c, part, text, left-1)
		}
		c.unread()
	}
}

// fault is what Parse, or Expr, says of a text.
func fault(t *testing.T, part, src string) api.Fault {
	t.Helper()
	if part == "program" {
		_, f := parsed(t, src)
		return f
	}
	_, f := anExpr(t, src)
	return f
}

func isWrong(t *testing.T, part, src string, at int) {
	t.Helper()
	if f := fault(t, part, src); f != (api.Fault{At: at, Why: api.ErrToken}) {
		t.Fatalf("%q: %v, wanted ErrToken at %d", src, f, at)
	}
}

// bent is a row of tokens with a few of them changed.
func bent(d *dice, l []string) []string {
	l = append([]string{}, l...)
	for range d.Below(3) {
		if len(l) == 0 {
			break
		}
		i, j := d.Below(len(l)), d.Below(len(l))
		switch d.Below(5) {
		case 0:
			l = append(l[:i], l[i+1:]...)
		case 1:
			l[i] = aToken(1 + d.Below(api.NumTok-1))
		case 2:
			l[i], l[j] = l[j], l[i]
		case 3:
			l = append(l[:i], append([]string{l[j]}, l[i:]...)...)
		case 4:
			l = l[:i]
		}
	}
	return l
}

func TestP11_1TheFirstTokenThatCantStandThere(t *testing.T) {
	d, r := dice(3), chapter()
	came := map[bool]int{}
	for i := range 1500 {
		w, part := newWriter(&d), "program"
		w.needful = true
		if i%3 == 0 {
			w.expr(grower{&d}.expr(4), anExpr0)
			part = "expr"
		} else {
			w.program(grower{&d}.program())
		}
		for range 4 {
			src := strings.Join(bent(&d, strings.Fields(w.text.String())), " ")
			tokens, err := lex.Scan(src)
			if err != nil || len(tokens) > 250 {
				continue
			}
			want, n := api.Fault{}, r.firstWrong(part, tokens)
			if n == len(tokens) {
				want = api.Fault{At: len(src), Why: api.ErrToken}
			} else if n >= 0 {
				want = api.Fault{At: tokens[n].At, Why: api.ErrToken}
			}
			if f := fault(t, part, src); f != want {
				t.Fatalf("%q: %v, wanted %v", src, f, want)
			}
			came[n < 0]++
		}
	}
	if came[true] < 500 || came[false] < 1000 {
		t.Error(came)
	}
}
