package parse_test

import (
	"fmt"
	"reflect"
	"regexp"
	"strconv"
	"strings"
	"testing"

	"proviso/api"
	"proviso/lex"
	"proviso/parse"
	"proviso/samples"
)

// telling is a program that tells an expression.
func telling(e api.Expr) api.Program {
	return api.Program{Funs: []api.Fun{{Name: "f", Body: []api.Stmt{{Op: api.StTell, Exprs: []api.Expr{e}}}}}}
}

// form is P11.3's, but for parentheses: those stand around each expression that has parts, if all; it panics where parts are missing.
type form struct {
	text strings.Builder
	all  bool
}

func (w *form) put(s string, args ...any) { fmt.Fprintf(&w.text, s, args...) }

func (w *form) program(p api.Program) string {
	for _, r := range p.Records {
		w.put("record %s", r.Name)
		if r.Parent != "" {
			w.put(" : %s", r.Parent)
		}
		if len(r.Fields) == 0 {
			w.put(" {}\n")
		} else {
			w.put(" { %s }\n", fieldsOf(r.Fields))
		}
	}
	for _, f := range p.Funs {
		of := f.Of
		if of != "" {
			of = " " + of
		}
		w.put("fun %s(%s)%s {\n", f.Name, fieldsOf(f.Params), of)
		w.stmts(f.Body, "  ")
		w.put("}\n")
	}
	return w.text.String()
}

func fieldsOf(l []api.Param) string {
	var parts []string
	for _, x := range l {
		parts = append(parts, x.Name+" "+x.Of)
	}
	return strings.Join(parts, ", ")
}

func (w *form) stmts(l []api.Stmt, ahead string) {
	for _, s := range l {
		w.put("%s", ahead)
		w.stmt(s, ahead)
		w.put("\n")
	}
}

func (w *form) stmt(s api.Stmt, ahead string) {
	e := func(i int) string { return w.expr(s.Exprs[i]) }
	switch s.Op {
	case api.StVar:
		w.put("var %s %s = %s;", s.Name, s.Of, e(0))
	case api.StSet:
		w.put("%s = %s;", e(0), e(1))
	case api.StIf:
		w.put("if %s {\n", e(0))
		w.stmts(s.Body, ahead+"  ")
		w.put("%s}", ahead)
		if len(s.Else) == 1 && s.Else[0].Op == api.StIf {
			w.put(" else ")
			w.stmt(s.Else[0], ahead)
		} else if len(s.Else) > 0 {
			w.put(" else {\n")
			w.stmts(s.Else, ahead+"  ")
			w.put("%s}", ahead)
		}
	case api.StWhile:
		w.put("while %s {\n", e(0))
		w.stmts(s.Body, ahead+"  ")
		w.put("%s}", ahead)
	case api.StBreak:
		w.put("break;")
	case api.StContinue:
		w.put("continue;")
	case api.StReturn:
		if len(s.Exprs) == 0 {
			w.put("return;")
		} else {
			w.put("return %s;", e(0))
		}
	case api.StTell:
		w.put("tell %s;", e(0))
	case api.StFail:
		w.put("fail %d;", s.Num)
	default:
		w.put("%s;", e(0))
	}
}

func (w *form) expr(e api.Expr) string {
	s := w.bare(e)
	if w.all {
		return "(" + s + ")"
	}
	return s
}

func (w *form) bare(e api.Expr) string {
	k := func(i int) string { return w.expr(e.Kids[i]) }
	switch e.Op {
	case api.ExInt:
		return strconv.Itoa(e.Num)
	case api.ExBool:
		return strconv.FormatBool(e.Num == 1)
	case api.ExNull:
		return "null"
	case api.ExName:
		return e.Name
	case api.ExNeg:
		return "-" + k(0)
	case api.ExNot:
		return "!" + k(0)
	case api.ExCall:
		var l []string
		for i := range e.Kids {
			l = append(l, k(i))
		}
		return e.Name + "(" + strings.Join(l, ", ") + ")"
	case api.ExNew:
		return "new " + e.Name
	case api.ExMake:
		return "new ints(" + k(0) + ")"
	case api.ExLen:
		return "len(" + k(0) + ")"
	case api.ExField:
		return k(0) + "." + e.Name
	case api.ExAt:
		return k(0) + "[" + k(1) + "]"
	case api.ExAs:
		return k(0) + " as " + e.Name
	case api.ExIs:
		return k(0) + " is " + e.Name
	}
	return k(0) + " " + sign(e.Op) + " " + k(1)
}

// formOf is P11.3 of a program: all parentheses are written, and each pair taken out that can go; the empty text, if there is no text.
func formOf(p api.Program) (text string) {
	defer func() {
		if recover() != nil {
			text = ""
		}
	}()
	text = (&form{all: true}).program(p)
	if !isOf(text, p) {
		return ""
	}
	for again := true; again; {
		again = false
		for _, pair := range pairs(text) {
			less := text[:pair[0]] + text[pair[0]+1:pair[1]] + text[pair[1]+1:]
			if isOf(less, p) {
				text, again = less, true
				break
			}
		}
	}
	return text
}

func isOf(text string, p api.Program) bool {
	q, err := parse.Parse(text)
	return err == nil && parse.Same(p, q)
}

// pairs are the places of parentheses that belong together.
func pairs(text string) [][2]int {
	var begun []int
	var l [][2]int
	for i, c := range text {
		switch c {
		case '(':
			begun = append(begun, i)
		case ')':
			l = append(l, [2]int{begun[len(begun)-1], i})
			begun = begun[:len(begun)-1]
		}
	}
	return l
}

func TestP11_3EachExpressionWithinEachOther(t *testing.T) {
	g := grower{new(dice)}
	var simple []api.Expr
	for range 300 {
		e := g.expr(1)
		if len(e.Kids) > 0 || e.Op == api.ExInt {
			simple = append(simple, e)
		}
	}
	byOp := map[int][]api.Expr{}
	for _, e := range simple {
		if len(byOp[e.Op]) < 3 || e.Op == api.ExInt {
			byOp[e.Op] = append(byOp[e.Op], e)
		}
	}
	tried := 0
	for _, outer := range simple[:120] {
		for i := range outer.Kids {
			for _, l := range byOp {
				inner := l[tried%len(l)]
				e := outer
				e.Kids = append([]api.Expr{}, outer.Kids...)
				e.Kids[i] = inner
				p := telling(e)
				if got, want := parse.Print(p), formOf(p); got != want || got == "" {
					t.Fatalf("%q, wanted %q", got, want)
				}
				tried++
			}
		}
	}
	if tried < 1000 || len(byOp) < 23 {
		t.Error(tried, len(byOp))
	}
}

func TestP11_3TheForm(t *testing.T) {
	d := dice(5)
	for i := range 1200 {
		p := grower{&d}.program()
		if i%2 == 0 {
			p = telling(grower{&d}.expr(3))
		}
		if got, want := parse.Print(p), formOf(p); got != want {
			t.Fatalf("%q\nwanted\n%q", got, want)
		}
	}
}

func TestP11_3NeedfulParentheses(t *testing.T) {
	for _, e := range []string{
		"1 - (2 - 3)", "1 - 2 - 3", "a && (b && c)", "(a || b) && c", "a || b && c", "(a < b) < c", "a < (b < c)", "(a == b) != c", "-(a.x)", "(-a).x", "(a as p).x", "a as p.x", "-(2147483648)",
		"-2147483648", "(-2147483648).x", "-2147483648.x", "--2147483648", "-(-a)", "!!a", "!(a == b)", "!a == b", "(a + b) * c", "a + b * c", "a * (b / c)", "a + b as p", "(a + b) as p", "new p.x", "(new ints(3))[0]",
		"f((a))", "a[(1 + 2)]", "len((a))", "a is p is q", "(a is p) == b", "a - -b", "-a - b", "- (a - b)", "(-a) * b", "(!a)[0]", "(-2147483648)[0]", "(-2147483648) as p", "-2147483648 is p", "- (2147483648 + 1)", "1 - 2147483648",
	} {
		x, f := anExpr(t, e)
		if f != (api.Fault{}) {
			t.Fatal(e, f)
		}
		p := telling(x)
		if got, want := parse.Print(p), formOf(p); got != want || got == "" {
			t.Errorf("%q, wanted %q", got, want)
		}
	}
	for _, e := range []string{"1 - (2 - 3)", "(-a).x", "a as p.x", "-(2147483648)", "(-2147483648).x", "-2147483648.x", "!(a == b)", "new ints(3)[0]", "a - -b", "--a", "(a < b) == (c < d)", "f(a, b)[-1].x is p", "-f().x"} {
		x, _ := anExpr(t, e)
		if got := parse.Print(telling(x)); got != "fun f() {\n  tell "+e+";\n}\n" {
			t.Errorf("%q: %q", e, got)
		}
	}
}

func TestP11_3TextsInTheForm(t *testing.T) {
	for _, src := range []string{
		"record p {}\n", "record p : q {}\n", "record p { x int }\n", "record p : q { x int, y ints, z any, w p, b bool }\nrecord q {}\n", "fun f() {\n}\n", "fun f(a int, b p) any {\n}\n",
		"record p {}\nfun f() {\n  while a {\n  }\n  if a {\n  }\n  if a {\n    break;\n  } else {\n    continue;\n    return;\n  }\n}\nfun g() int {\n  return -1;\n}\n",
		"fun f() {\n  if a {\n  } else if b {\n    if c {\n      tell 1;\n    }\n  } else if d {\n  } else {\n    while e {\n      fail 7;\n    }\n    if a {\n    }\n  }\n  var x int = 1;\n  x.y = 2;\n  x[0] = 3;\n  f(1, 2);\n}\n",
	} {
		if got := parse.Print(good(t, src)); got != src {
			t.Errorf("%q, wanted %q", got, src)
		}
	}
	for src, want := range map[string]string{
		"fun f(){if a{}else{}}":                       "fun f() {\n  if a {\n  }\n}\n",
		"fun f(){if a{}else{if b{}}}":                 "fun f() {\n  if a {\n  } else if b {\n  }\n}\n",
		"fun f(){if a{}else{if b{}else{}}}":           "fun f() {\n  if a {\n  } else if b {\n  }\n}\n",
		"fun f(){if a{}else{if b{}tell 1;}}":          "fun f() {\n  if a {\n  } else {\n    if b {\n    }\n    tell 1;\n  }\n}\n",
		"fun f(){((g()));(a)=(1);(a)[(0)]=((007));}":  "fun f() {\n  g();\n  a = 1;\n  a[0] = 7;\n}\n",
		"fun f(){}record p{}fun g(){}record q{x int}": "record p {}\nrecord q { x int }\nfun f() {\n}\nfun g() {\n}\n",
	} {
		if got := parse.Print(good(t, src)); got != want {
			t.Errorf("%q, wanted %q", got, want)
		}
	}
}

// fieldsIn are all fields and lists of a tree that may be set.
func fieldsIn(v reflect.Value, path string, l map[string]reflect.Value) {
	switch v.Kind() {
	case reflect.Struct:
		for i := range v.NumField() {
			fieldsIn(v.Field(i), path+"."+v.Type().Field(i).Name, l)
		}
	case reflect.Slice:
		l[path] = v
		for i := range v.Len() {
			fieldsIn(v.Index(i), path+"."+strconv.Itoa(i), l)
		}
	default:
		l[path] = v
	}
}

// turn changes a field, as the dice fall.
func turn(d *dice, v reflect.Value) {
	switch v.Kind() {
	case reflect.String:
		v.SetString(pick(d, []string{"", "a", "int", "a b", "if", "p { }", "1", "x; tell 1", "_a", "-a", "x // ", "é", strings.Repeat("n", 24), strings.Repeat("n", 25), "top"}))
	case reflect.Int:
		v.SetInt(int64(pick(d, append(samples.Numbers(), 4, 5, 6, 7, 8, 9, 10, 11, 12, 18, 20, 23, 24, 1<<31))))
	case reflect.Uint8:
		v.SetUint(uint64(d.Below(256)))
	case reflect.Slice:
		n := v.Len()
		switch d.Below(3) {
		case 0:
			v.SetZero()
		case 1:
			v.Set(reflect.Append(v, reflect.Zero(v.Type().Elem())))
		case 2:
			if n > 0 {
				v.Set(reflect.Append(v, v.Index(d.Below(n))))
			}
		}
	}
}

func TestP11_3ProgramsThatNoTextHas(t *testing.T) {
	d, came := dice(6), map[bool]int{}
	for i := range 3000 {
		p := grower{&d}.program()
		if i%2 == 0 {
			p = telling(grower{&d}.expr(2))
		}
		l := map[string]reflect.Value{}
		fieldsIn(reflect.ValueOf(&p).Elem(), "", l)
		turn(&d, l[pick(&d, sorted(l))])
		got, want := parse.Print(p), formOf(p)
		if got != want {
			t.Fatalf("%v:\n%q\nwanted\n%q", p, got, want)
		}
		came[got == ""]++
	}
	if came[true] < 500 || came[false] < 500 {
		t.Error(came)
	}
}

func TestP11_3NoTextIsLonger(t *testing.T) {
	const head, tail, most = "fun f() {\n", "}\n", 65536
	name := strings.Repeat("n", 24)
	line := "  tell " + name + ";\n"
	n := (most - len(head) - len(tail)) / len(line)
	for _, more := range []int{0, 1, 2} {
		// The last line has an operand more, so long that all of it comes to the limit, and more.
		left := most - len(head) - len(tail) - n*len(line) + more
		last := " + " + name[:left-len(" + ")]
		want := head + strings.Repeat(line, n-1) + "  tell " + name + last + ";\n" + tail
		if len(want) != most+more {
			t.Fatal(len(want))
		}
		p := good(t, "fun f(){"+strings.Repeat("tell "+name+";", n-1)+"tell "+name+last+";}")
		if more > 0 {
			want = ""
		}
		if got := parse.Print(p); got != want {
			t.Error(more, len(got))
		}
	}
}

// sums is a sum of so many.
func sums(n int) api.Expr {
	e := api.Expr{Op: api.ExName, Name: "a"}
	for range n - 1 {
		e = api.Expr{Op: api.ExAdd, Kids: []api.Expr{e, {Op: api.ExName, Name: "a"}}}
	}
	return e
}

func TestP11_3NoTextHasMoreTokens(t *testing.T) {
	// fun f ( ) { tell .. ; } are eight.
	for n, fits := range map[int]bool{8187: true, 8188: true, 8189: false, 1 << 15: false} {
		p := telling(sums(n))
		if got := parse.Print(p); (got != "") != fits {
			t.Error(n, len(got))
		}
	}
}

func TestP11_3NoTextIsDeeper(t *testing.T) {
	for _, op := range []int{api.ExNeg, api.ExLen, api.ExMake, api.ExNot} {
		e := api.Expr{Op: api.ExNull}
		for n := 1; n <= 64; n++ {
			e = api.Expr{Op: op, Kids: []api.Expr{e}}
			if got := parse.Print(telling(e)); (got != "") != (n < 64) {
				t.Error(op, n, got)
			}
		}
		for range 1 << 15 {
			e = api.Expr{Op: op, Kids: []api.Expr{e}}
		}
		if got := parse.Print(telling(e)); got != "" {
			t.Error(op)
		}
	}
	s := api.Stmt{Op: api.StIf, Exprs: []api.Expr{{Op: api.ExNull}}}
	for n := 1; n <= 64; n++ {
		p := api.Program{Funs: []api.Fun{{Name: "f", Body: []api.Stmt{s}}}}
		if got := parse.Print(p); (got != "") != (n < 64) {
			t.Error(n, got)
		}
		s = api.Stmt{Op: api.StIf, Exprs: s.Exprs, Else: []api.Stmt{s}}
	}
}

func TestP11_3ProgramsOutOfAllBounds(t *testing.T) {
	long := strings.Repeat("n", 1<<20)
	var many api.Program
	for range 1 << 16 {
		many.Records = append(many.Records, api.Record{Name: "p"})
	}
	row := []api.Expr{{Op: api.ExName, Name: "a"}}
	for range 20 {
		row = []api.Expr{{Op: api.ExAdd, Kids: append(row, row...)}}
	}
	for i, p := range []api.Program{{}, many, telling(row[0]), telling(api.Expr{Op: api.ExName, Name: long}), {Records: []api.Record{{Name: long}}}} {
		if got := parse.Print(p); got != "" {
			t.Errorf("%d: %.40q", i, got)
		}
	}
}

func TestP11_4ThereAndBack(t *testing.T) {
	d := dice(7)
	for i := range 3000 {
		w := newWriter(&d)
		w.program(grower{&d}.program())
		src := w.text.String()
		if i%3 == 0 {
			src = samples.Source(&d, 6)
		}
		p := good(t, src)
		text := parse.Print(p)
		if (text == "") != (len(p.Records)+len(p.Funs) == 0) {
			t.Fatalf("%q: %q", src, text)
		}
		q := good(t, text)
		if !parse.Same(p, q) || parse.Print(q) != text {
			t.Fatalf("%q: %q", src, text)
		}
	}
	// A text that is taken, and whose form is too long.
	p := good(t, strings.Repeat("fun f(){while a{while a{while a{while a{while a{while a{while a{}}}}}}}}", 420))
	if got := parse.Print(p); got != "" {
		t.Error(len(got))
	}
}

func TestP11_5BlanksAndRemarks(t *testing.T) {
	d := dice(8)
	for range 2000 {
		p := grower{&d}.program()
		w := newWriter(&d)
		w.needful = true
		w.program(p)
		tokens, err := lex.Scan(w.text.String())
		if err != nil {
			t.Fatal(err)
		}
		var parts []string
		for _, x := range tokens {
			parts = append(parts, spelling(x))
		}
		want := good(t, strings.Join(parts, " "))
		got := good(t, strings.Join(parts, pick(&d, []string{"\n", " // fun f( \n", "\t", "\r\n"})))
		if !parse.Same(got, want) || !alike(placeless(got), placeless(want)) {
			t.Fatal(parts)
		}
	}
}

// placeless is a program with all places 0.
func placeless(p api.Program) api.Program {
	l := map[string]reflect.Value{}
	fieldsIn(reflect.ValueOf(&p).Elem(), "", l)
	for path, v := range l {
		if strings.HasSuffix(path, ".At") {
			v.SetInt(0)
		}
	}
	return p
}

func TestP11_6WhatStandsBehindAFault(t *testing.T) {
	d, came := dice(9), map[api.Errno]int{}
	space := regexp.MustCompile(`\s+`)
	for i := range 4000 {
		w := newWriter(&d)
		w.needful = true
		if i%3 == 0 {
			w.program(telling(chainOf(&d, 120)))
		} else {
			w.program(grower{&d}.program())
		}
		l := bent(&d, space.Split(strings.TrimSpace(w.text.String()), -1))
		src := strings.Join(l, " ")
		_, f := parsed(t, src)
		if f.Why != api.ErrToken && f.Why != api.ErrDeep || f.At == len(src) {
			continue
		}
		came[f.Why]++
		tokens, _ := lex.Scan(src)
		end := 0
		for _, x := range tokens {
			if x.At == f.At {
				end = x.End
			}
		}
		for _, behind := range []string{"", " } ) ]", " 1 2 3", " . x", " fun g() { }", " " + strings.Repeat("( ", 100), " // blanks", "\n=== x"} {
			if _, g := parsed(t, src[:end]+behind); g != f {
				t.Fatalf("%q: %v; with %q behind: %v", src, f, behind, g)
			}
		}
	}
	if came[api.ErrToken] < 300 || came[api.ErrDeep] < 300 {
		t.Error(came)
	}
}
