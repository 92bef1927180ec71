package parse_test

import (
	"strings"
	"testing"

	"proviso/api"
)

// nest is a part that is one deeper: what stands ahead of the inner one, and behind it.
type nest struct{ from, to string }

func exprNests() []nest {
	return []nest{{"(", ")"}, {"-", ""}, {"!", ""}, {"f(", ")"}, {"f(1, ", ", 2)"}, {"len(", ")"}, {"new ints(", ")"}, {"a[", "]"}, {"1 + (", ") * 2"}, {"a.x[", "].y"}, {"a[1][", "]"}}
}

func stmtNests() []nest {
	return []nest{{"if a { ", " }"}, {"while a { ", " }"}, {"if a { } else { ", " }"}}
}

// within is a text so deep.
func within(n nest, deep int, inner string) string {
	return strings.Repeat(n.from, deep) + inner + strings.Repeat(n.to, deep)
}

// opener is where in a piece the first token stands that makes it deeper.
func opener(n nest) int { return strings.IndexAny(n.from, "([{-!") }

func TestP11_1DeepExpressions(t *testing.T) {
	for _, n := range exprNests() {
		if _, f := anExpr(t, within(n, 64, "1")); f != (api.Fault{}) {
			t.Errorf("%q: %v", n.from, f)
		}
		want := api.Fault{At: 64*len(n.from) + opener(n), Why: api.ErrDeep}
		for _, inner := range []string{"1", "", "}", "1 )", "2147483648"} {
			if _, f := anExpr(t, within(n, 65, inner)); f != want {
				t.Errorf("%q: %v, wanted %v", n.from, f, want)
			}
		}
		if _, f := anExpr(t, within(n, 1500, "1")); f != want {
			t.Errorf("%q: %v, wanted %v", n.from, f, want)
		}
	}
}

func TestP11_1DeepStatements(t *testing.T) {
	const begin = "fun f() { "
	for _, n := range stmtNests() {
		if _, f := parsed(t, begin+within(n, 63, "")+" }"); f != (api.Fault{}) {
			t.Errorf("%q: %v", n.from, f)
		}
		want := api.Fault{At: len(begin) + 63*len(n.from) + opener(n), Why: api.ErrDeep}
		if _, f := parsed(t, begin+within(n, 64, "")+" }"); f != want {
			t.Errorf("%q: %v, wanted %v", n.from, f, want)
		}
		if _, f := parsed(t, begin+within(n, 64, "")); f != want {
			t.Errorf("%q: %v, wanted %v", n.from, f, want)
		}
	}
}

func TestP11_1AnIfBehindElseIsDeeper(t *testing.T) {
	const begin, more = "fun f() { if a { } ", "else if a { } "
	// The function's block, so many ifs, and the last one's block.
	if _, f := parsed(t, begin+strings.Repeat(more, 62)+"}"); f != (api.Fault{}) {
		t.Error(f)
	}
	if _, f := parsed(t, begin+strings.Repeat(more, 62)+"else { } }"); f != (api.Fault{}) {
		t.Error(f)
	}
	block := api.Fault{At: len(begin) + 62*len(more) + len("else if a "), Why: api.ErrDeep}
	if _, f := parsed(t, begin+strings.Repeat(more, 63)+"}"); f != block {
		t.Error(f, block)
	}
	inner := begin + strings.Repeat(more, 60) + "else if a { if b { } else { tell ("
	if _, f := parsed(t, inner); f != (api.Fault{At: len(inner) - 1, Why: api.ErrDeep}) {
		t.Error(f, len(inner)-1)
	}
	// Each if that is ended counts no more.
	if _, f := parsed(t, begin+strings.Repeat(more, 62)+"if a { } "+strings.Repeat(more, 62)+"}"); f != (api.Fault{}) {
		t.Error(f)
	}
	// The word itself, one too deep.
	deep := "fun f() { " + strings.Repeat("while a { ", 62) + "if a { } else if "
	if _, f := parsed(t, deep+"(1"); f != (api.Fault{At: len(deep), Why: api.ErrDeep}) {
		t.Error(f, len(deep))
	}
	last := "fun f() { " + strings.Repeat("while a { ", 63) + "if "
	if _, f := parsed(t, last+"a { "); f != (api.Fault{At: len(last) + 2, Why: api.ErrDeep}) {
		t.Error(f, len(last)+2)
	}
}

// chainOf is a tree of parts within one another, as the dice fall.
func chainOf(d *dice, n int) api.Expr {
	e := api.Expr{Op: api.ExName, Name: "a"}
	for range n {
		switch d.Below(9) {
		case 0:
			e = api.Expr{Op: api.ExNeg, Kids: []api.Expr{e}}
		case 1:
			e = api.Expr{Op: api.ExNot, Kids: []api.Expr{e}}
		case 2:
			e = api.Expr{Op: api.ExCall, Name: "f", Kids: []api.Expr{{Op: api.ExInt, Num: -1 << 31}, e, {Op: api.ExNull}}}
		case 3:
			e = api.Expr{Op: api.ExAt, Kids: []api.Expr{{Op: api.ExName, Name: "r"}, e}}
		case 4:
			e = api.Expr{Op: api.ExAt, Kids: []api.Expr{e, {Op: api.ExInt, Num: -1 << 31}}}
		case 5:
			e = api.Expr{Op: api.ExMul, Kids: []api.Expr{{Op: api.ExInt}, e}}
		case 6:
			e = api.Expr{Op: api.ExSub, Kids: []api.Expr{e, {Op: api.ExInt, Num: -1 << 31}}}
		case 7:
			e = api.Expr{Op: api.ExLen, Kids: []api.Expr{e}}
		case 8:
			e = api.Expr{Op: api.ExField, Name: "x", Kids: []api.Expr{e}}
		}
	}
	return e
}

func TestP11_1DepthIsWhatIsBegunAndNotEnded(t *testing.T) {
	d, came := dice(4), map[bool]int{}
	for i := range 4000 {
		w := newWriter(&d)
		want := w.expr(chainOf(&d, 50+i%40), anExpr0)
		src := w.text.String()
		e, f := anExpr(t, src)
		came[w.tooDeep >= 0]++
		switch {
		case w.tooDeep >= 0 && f != api.Fault{At: w.tooDeep, Why: api.ErrDeep}:
			t.Fatalf("%q: %v, wanted ErrDeep at %d", src, f, w.tooDeep)
		case w.tooDeep < 0 && (f != api.Fault{} || !alike(e, want)):
			t.Fatalf("%q: %v", src, f)
		}
	}
	if came[true] < 500 || came[false] < 500 {
		t.Error(came)
	}
}

func TestP11_1WideIsNotDeep(t *testing.T) {
	for _, src := range []string{strings.Repeat("1 + ", 8191) + "1", "a" + strings.Repeat(".x", 8191), "a" + strings.Repeat("[1]", 5461), strings.Repeat("-1 * ", 5461) + "1", "1" + strings.Repeat(" && !a", 5461), "f(" + strings.Repeat("(1), ", 4000) + "1)", "a" + strings.Repeat(" as p", 8191)} {
		if _, f := anExpr(t, src); f != (api.Fault{}) {
			t.Errorf("%.20q: %v", src, f)
		}
	}
	if _, f := parsed(t, "fun f() {"+strings.Repeat("if a { }", 4000)+"}"); f != (api.Fault{}) {
		t.Error(f)
	}
}

func TestP11_1DeepAndWrong(t *testing.T) {
	deep := strings.Repeat("(", 64)
	for src, want := range map[string]api.Fault{
		deep + "(":             {At: 64, Why: api.ErrDeep},
		deep + ")":             {At: 64, Why: api.ErrToken},
		deep + "1 -":           {At: 67, Why: api.ErrToken},
		deep + "1 - -":         {At: 68, Why: api.ErrDeep},
		deep + "-2147483648":   {At: 64, Why: api.ErrDeep},
		deep + "1 [":           {At: 66, Why: api.ErrDeep},
		deep + "len (":         {At: 68, Why: api.ErrDeep},
		deep + "new ints":      {At: 72, Why: api.ErrToken},
		deep + "new ints (":    {At: 73, Why: api.ErrDeep},
		deep + "f ( g":         {At: 66, Why: api.ErrDeep},
		")" + deep + "(":       {At: 0, Why: api.ErrToken},
		deep + "( #":           {At: 66, Why: api.ErrByte},
		deep + "1" + ") ) x #": {At: 71, Why: api.ErrByte},
	} {
		if _, f := anExpr(t, src); f != want {
			t.Errorf("%q: %v, wanted %v", src, f, want)
		}
	}
}
