package gen_test

import (
	"fmt"
	"strconv"
	"strings"
	"testing"

	"proviso/api"
	"proviso/gen"
)

// row is so many pieces, numbered, with a mark between.
func row(n int, piece, between string) string {
	var l []string
	for i := range n {
		l = append(l, fmt.Sprintf(piece, i))
	}
	return strings.Join(l, between)
}

// nest is an expression with which so many numbers lie on the stack at most.
func nest(n int) string {
	return strings.Repeat("1 + (", n-1) + "1" + strings.Repeat(")", n-1)
}

func TestP13_1MaxCode(t *testing.T) {
	const plain, loop, gives = "n int) { ", "n int) { while n > 0 { ", "n int) int { "
	for _, x := range []struct {
		head, piece string
		n           int
		tail        string
		size        int
	}{
		{plain, "tell n; ", 1365, "}", 4096},
		{plain, "tell n; ", 1364, "tell -n; }", 4097},
		{plain, "tell n; ", 1366, "}", 4099},
		{plain, "tell n; ", 1365, "return; }", 4096},
		{plain, "tell n; ", 1364, "v(); fail 1; }", 4096},
		{plain, "tell n; ", 1365, "fail 1; }", 4097},
		{plain, "tell 1; ", 682, "tell n; }", 4096},
		{plain, "tell 1; ", 682, "tell -n; }", 4097},
		{loop, "tell n; ", 1360, "} }", 4096},
		{loop, "tell n; ", 1359, "tell -n; } }", 4097},
		{gives, "tell n; ", 1364, "return n; }", 4095},
		{gives, "tell n; ", 1364, "return -n; }", 4096},
		{gives, "tell n; ", 1364, "return - -n; }", 4097},
	} {
		src := "fun v() { } fun @f(" + x.head + strings.Repeat(x.piece, x.n) + x.tail
		text := strings.Replace(src, "@", "", 1)
		isMeant(t, text)
		if x.size > 4096 {
			isFault(t, src, api.ErrSize)
		} else if b := good(t, text).Funcs[1].Code; len(b) != x.size {
			t.Error(x.head, x.tail, len(b), x.size)
		}
	}
}

// locals is a function with so many variables, the last of which is a bool, and a statement.
func locals(n int, stmt string) string {
	if n == 0 {
		return "fun @f() { " + stmt + " }"
	}
	return "fun @f() { " + row(n-1, "var a%d int = 0; ", "") + "var b bool = true; " + stmt + " }"
}

const called = "record p { x int } fun v() { } fun one(b bool) int { return 1; } fun eight(a int, b int, c int, d int, e int, f int, g int, h int) int { return a; } "

func TestP13_1MaxSlots(t *testing.T) {
	for n := range 17 {
		free := 24 - n
		// Each of these needs so many slots more than what it stands in.
		for with, more := range map[string]int{
			"tell %s;":                              0,
			"new ints(3)[%s] = 2;":                  1,
			"new ints(3)[2] = %s;":                  2,
			"new p.x = %s;":                         1,
			"while %s < 1 { }":                      0,
			"if 1 < %s { }":                         1,
			"if true || 1 < %s { }":                 1,
			"if true && %s > 1 { }":                 0,
			"eight(1, 2, 3, %s, 5, 6, 7, 8);":       3,
			"tell one(true && %s == 1) + 1;":        0,
			"return; tell %s;":                      0, // though nothing comes there
			"fail 1; while true { tell 1 * %s; }":   1,
			"if true { return; } else { tell %s; }": 0,
		} {
			for _, high := range []int{free - more, free - more + 1} {
				src := called + locals(n, fmt.Sprintf(with, "("+nest(high)+")"))
				if isMeant(t, strings.Replace(src, "@", "", 1)); high+more > free {
					isFault(t, src, api.ErrSize)
				} else {
					good(t, strings.Replace(src, "@", "", 1))
				}
			}
		}
	}
}

func TestP13_1ArgumentsOnTheStack(t *testing.T) {
	const eight = "eight(1, 2, 3, 4, 5, 6, 7, 8)"
	good(t, called+strings.Replace(locals(16, eight+";"), "@", "", 1))
	isFault(t, called+locals(16, "tell 1 + "+eight+";"), api.ErrSize)
	good(t, called+strings.Replace(locals(15, "tell 1 + "+eight+";"), "@", "", 1))
	good(t, called+strings.Replace(locals(16, "tell "+eight+" + 1;"), "@", "", 1))
	isFault(t, called+locals(16, "eight(1, 2, 3, 4, 5, 6, 7, 8 + 9);"), api.ErrSize)
	good(t, called+strings.Replace(locals(16, "eight(1, 2, 3, 4, 5, 6, 7 + 8, 9);"), "@", "", 1))
}

// At F and E the stack is as high as where the jumps stand that lead there: not as behind the code ahead.
func TestP13_1HeightsWhereJumpsLead(t *testing.T) {
	for _, mark := range []string{"&&", "||"} {
		bools := "b" + strings.Repeat(" "+mark+" b", 40)
		right := strings.Repeat("b "+mark+" (", 40) + "b" + strings.Repeat(")", 40)
		for _, e := range []string{bools, right} {
			// Seven numbers and a bool: with 16 locals no slot is left.
			good(t, called+strings.Replace(locals(16, "eight(1, 2, 3, 4, 5, 6, 7, one("+e+"));"), "@", "", 1))
			isFault(t, called+locals(16, "eight(1, 2, 3, 4, 5, 6, 7, 1 + one("+e+"));"), api.ErrSize)
		}
	}
	good(t, called+strings.Replace(locals(16, "v(); "+strings.Repeat("if b { } ", 100)), "@", "", 1))
}

// A return takes what its own function gives, and no other one's.
func TestP13_1BehindAReturn(t *testing.T) {
	const none, gives = "fun v() { } ", "fun g() int { return 1; } "
	for _, ahead := range []string{"", none, gives} {
		good(t, ahead+"fun f() int { return 1; tell "+nest(24)+"; return 2; }")
		isFault(t, ahead+"fun @f() int { return 1; tell "+nest(25)+"; return 2; }", api.ErrSize)
		good(t, ahead+"fun f() { return; tell "+nest(24)+"; }")
		isFault(t, ahead+"fun @f() { return; tell "+nest(25)+"; }", api.ErrSize)
	}
}

func TestP13_1LocalsOfAllBodiesCount(t *testing.T) {
	body := row(8, "if true { var a%d int = 1; } ", "") + row(8, "while false { var b%d int = 1; } ", "")
	good(t, "fun f() { "+body+"tell "+nest(8)+"; }")
	isFault(t, "fun @f() { "+body+"tell "+nest(9)+"; }", api.ErrSize)
	isFault(t, "fun @f() { tell "+nest(9)+"; "+body+"}", api.ErrSize)
	good(t, "fun f("+row(8, "a%d int", ", ")+") { tell "+nest(16)+"; }")
	isFault(t, "fun @f("+row(8, "a%d int", ", ")+") { tell "+nest(17)+"; }", api.ErrSize)
}

func TestP13_1FunctionByFunction(t *testing.T) {
	small, high := "fun %s() { } ", "fun %s() { tell "+nest(25)+"; } "
	long := "fun %s() { " + strings.Repeat("tell 1; ", 700) + "} "
	all := func(l ...string) string {
		var s string
		for i, x := range l {
			name := "f" + strconv.Itoa(i)
			if strings.HasPrefix(x, "@") {
				name, x = "@"+name, x[1:]
			}
			s += fmt.Sprintf(x, name)
		}
		return s
	}
	isFault(t, all("@"+high), api.ErrSize)
	isFault(t, all("@"+long), api.ErrSize)
	isFault(t, all(small, "@"+high, small), api.ErrSize)
	isFault(t, all(small, small, "@"+long), api.ErrSize)
	isFault(t, all("@"+high, long), api.ErrSize)
	isFault(t, all("@"+long, high), api.ErrSize)
	isFault(t, all("@"+long, "fun %s() { tell -(-1); } "), api.ErrSize)
	isFault(t, all(high, long)+"fun g() { @break; }", api.ErrPlace)
	isFault(t, all(high)+"fun @g() int { }", api.ErrEnd)
	isFault(t, all(high)+"fun g() { } fun@", api.ErrToken)
	isFault(t, "record p { @x gone } "+all(high), api.ErrUnknown)
	m, err := gen.Compile("no name", all(high))
	if f := faultOf(t, m, err); f != (api.Fault{Why: api.ErrName}) {
		t.Error(f)
	}
}

// grown is an expression with a number for its value, whose parts lie on the stack in all ways.
func grown(d *dice, deep int) string {
	if deep == 0 {
		return pick(d, []string{"1", "a0", "len(s)"})
	}
	x, y := grown(d, deep-1), grown(d, d.Below(deep))
	return fmt.Sprintf(pick(d, []string{
		"%s + (%s)", "%s - (%s)", "-(%s) * (%s)", "s[%s + (%s)]", "one(%s < (%s))", "one(b && 1 == (%s) + (%s))", "one(%s == 0 || b && (%s) >= 2)", "eight(1, 2, %s, 4, %s, 6, 7, 8)", "eight(1, 2, 3, 4, %s, 6, 7, %s)", "one((s != null) == (b || %s < %s))", "new ints(%s)[%s]",
	}), x, y)
}

func TestP13_1HighStacksHeldAgainstTheTree(t *testing.T) {
	d, came := dice(3), map[api.Errno]int{}
	for range 4000 {
		e := grown(&d, 1+d.Below(6))
		stmt := fmt.Sprintf(pick(&d, []string{"tell %s;", "s[2] = %s;", "s[%s] = 2;", "while %s < 2 { break; }", "if b { a0 = %s; } else { return; }", "new p.x = %s;", "return; tell %s;"}), e)
		vars := row(d.Below(14), "var c%d any = null; ", "")
		src := called + "fun f(a0 int, b bool, s ints) { " + vars + stmt + " }"
		came[isMeant(t, src).Why]++
	}
	if came[api.OK] < 500 || came[api.ErrSize] < 500 {
		t.Error("hardly comes", came)
	}
}

func TestTheGreatestTexts(t *testing.T) {
	for _, src := range []string{
		"fun @f() { tell 1" + strings.Repeat(" + 1", 8187) + "; }",
		"fun @f() { if true" + strings.Repeat(" && true", 8180) + " { } }",
		"fun @f() { while true { if true" + strings.Repeat(" && true", 8175) + " { } } }", // a jump would lead past what an operand can say
		"fun @f() { if true" + strings.Repeat(" || true", 8180) + " { } }",
		"fun @f() { while true { " + strings.Repeat("break; ", 8180) + "} }",
		"record p { n p } fun @f(a p) { a = a" + strings.Repeat(".n", 8180) + "; }",
		"fun @f() { tell " + strings.Repeat("-(", 31) + "1" + strings.Repeat(")", 31) + strings.Repeat(" * 2", 4000) + "; }",
	} {
		isFault(t, src, api.ErrSize)
	}
	good(t, "fun f() { "+strings.Repeat("if true { ", 63)+"tell 1; "+strings.Repeat("} ", 63)+"}")
	good(t, "fun f() int { "+strings.Repeat("if true { ", 63)+"return 1;"+strings.Repeat(" } else { return 2; }", 63)+" }")
	good(t, "fun f() { "+strings.Repeat("while true { ", 63)+"break; continue; "+strings.Repeat("} ", 63)+"}")
	good(t, "fun f() { if true { tell 0; }"+strings.Repeat(" else if false { tell 1; }", 61)+" else { fail 2; } }")
}

// step looks at the whole environment whenever it is asked: here that is all the fields that a table can have, and as many functions as there may be.
func TestTheGreatestTables(t *testing.T) {
	text := ""
	for c := range 32 {
		text += "record p" + strconv.Itoa(c) + " { " + row(32, "x%d int", ", ") + " } "
	}
	for i := range 64 {
		text += "fun f" + strconv.Itoa(i) + "(a p" + strconv.Itoa(i%32) + ") { " + row(32, "a.x%[1]d = 1%[1]d; ", "") + "} "
	}
	if m := good(t, text); len(m.Funcs) != 64 {
		t.Error(len(m.Funcs))
	}
}
