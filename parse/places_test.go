package parse_test

import (
	"errors"
	"fmt"
	"strings"
	"testing"

	"proviso/api"
	"proviso/lex"
	"proviso/parse"
)

// said is an expression in words: kinds, places, numbers and names.
func said(e api.Expr) string {
	names := strings.Fields("- int bool null name neg not mul div rem add sub less most more least same unlike and or call new make field at len as is")
	s := fmt.Sprintf("%s@%d", names[e.Op], e.At)
	if e.Num != 0 {
		s += fmt.Sprintf(" %d", e.Num)
	}
	if e.Name != "" {
		s += " " + e.Name
	}
	for _, k := range e.Kids {
		s += " (" + said(k) + ")"
	}
	return s
}

func TestP11_1Places(t *testing.T) {
	for src, want := range map[string]string{
		" a":              "name@1 a",
		" 07":             "int@1 7",
		" true":           "bool@1 1",
		" false":          "bool@1",
		" null":           "null@1",
		" - a":            "neg@1 (name@3 a)",
		" ! a":            "not@1 (name@3 a)",
		" ( a )":          "name@3 a",
		"a + b":           "add@2 (name@0 a) (name@4 b)",
		"(a) || (b)":      "or@4 (name@1 a) (name@8 b)",
		" f ( a , 1 )":    "call@1 f (name@5 a) (int@9 1)",
		" f ( )":          "call@1 f",
		" new p":          "new@1 p",
		" new ints ( a )": "make@1 (name@12 a)",
		" len ( a )":      "len@1 (name@7 a)",
		"a . x":           "field@2 x (name@0 a)",
		"a [ 1 ]":         "at@2 (name@0 a) (int@4 1)",
		"a as p":          "as@2 p (name@0 a)",
		"a is p":          "is@2 p (name@0 a)",
		"a as p . x [b]":  "at@11 (field@7 x (as@2 p (name@0 a))) (name@12 b)",
	} {
		if e, f := anExpr(t, src); f != (api.Fault{}) || said(e) != want {
			t.Errorf("%q: %s, %v, wanted %s", src, said(e), f, want)
		}
	}
}

func TestP11_1TheLeastNumber(t *testing.T) {
	for src, want := range map[string]string{
		"-2147483648":                   "int@0 -2147483648",
		"- // one number\n 02147483648": "int@0 -2147483648",
		"(-2147483648)":                 "int@1 -2147483648",
		"2147483648":                    "int@0 2147483648",
		"(2147483648)":                  "int@1 2147483648",
		"-(2147483648)":                 "neg@0 (int@2 2147483648)",
		"-2147483647":                   "neg@0 (int@1 2147483647)",
		"--2147483648":                  "neg@0 (int@1 -2147483648)",
		"!-2147483648":                  "not@0 (int@1 -2147483648)",
		"-!2147483648":                  "neg@0 (not@1 (int@2 2147483648))",
		"-2147483648.x":                 "neg@0 (field@11 x (int@1 2147483648))",
		"-2147483648[1]":                "neg@0 (at@11 (int@1 2147483648) (int@12 1))",
		"-2147483648 as p":              "neg@0 (as@12 p (int@1 2147483648))",
		"-2147483648 is p":              "neg@0 (is@12 p (int@1 2147483648))",
		"(-2147483648).x":               "field@13 x (int@1 -2147483648)",
		"(-2147483648) is p":            "is@14 p (int@1 -2147483648)",
		"a - 2147483648":                "sub@2 (name@0 a) (int@4 2147483648)",
		"a - -2147483648":               "sub@2 (name@0 a) (int@4 -2147483648)",
		"-2147483648 - 2147483648":      "sub@12 (int@0 -2147483648) (int@14 2147483648)",
		"-2147483648 * 2":               "mul@12 (int@0 -2147483648) (int@14 2)",
		"-2147483648 == 2":              "same@12 (int@0 -2147483648) (int@15 2)",
		"f(-2147483648)":                "call@0 f (int@2 -2147483648)",
		"a[-2147483648]":                "at@1 (name@0 a) (int@2 -2147483648)",
	} {
		if e, f := anExpr(t, src); f != (api.Fault{}) || said(e) != want {
			t.Errorf("%q: %s, %v, wanted %s", src, said(e), f, want)
		}
	}
}

func TestP11_1StatementsAndDeclarations(t *testing.T) {
	src := "fun f (a int , b p) any { (g()); var v q = 1; if a { } else if b { break; } while c { continue; } return; return d; tell 1; fail 3; (a).x = 2; a[0] = null; } record p : q { x int } record e { } fun g ( ) { }"
	p := good(t, src)
	at := func(s string) int { return strings.Index(src, s) }
	name := func(at int, s string) api.Expr { return api.Expr{Op: api.ExName, At: at, Name: s} }
	num := func(at, n int) api.Expr { return api.Expr{Op: api.ExInt, At: at, Num: n} }
	a, c, d := name(at("if a")+3, "a"), name(at("c {"), "c"), name(at("d;"), "d")
	inner := api.Stmt{Op: api.StIf, At: at("if b"), Exprs: []api.Expr{name(at("if b")+3, "b")}, Body: []api.Stmt{{Op: api.StBreak, At: at("break")}}}
	place, row := at("(a).x"), at("a[0]")
	want := api.Program{
		Records: []api.Record{{At: at("p : q"), Name: "p", Parent: "q", Fields: []api.Param{{At: at("x int"), Name: "x", Of: "int"}}}, {At: at("e { }"), Name: "e"}},
		Funs: []api.Fun{
			{At: 4, Name: "f", Of: "any", Params: []api.Param{{At: 7, Name: "a", Of: "int"}, {At: 15, Name: "b", Of: "p"}}, Body: []api.Stmt{
				{Op: api.StCall, At: at("(g"), Exprs: []api.Expr{{Op: api.ExCall, At: at("g())"), Name: "g"}}},
				{Op: api.StVar, At: at("var"), Name: "v", Of: "q", Exprs: []api.Expr{num(at("1;"), 1)}},
				{Op: api.StIf, At: at("if a"), Exprs: []api.Expr{a}, Else: []api.Stmt{inner}},
				{Op: api.StWhile, At: at("while"), Exprs: []api.Expr{c}, Body: []api.Stmt{{Op: api.StContinue, At: at("continue")}}},
				{Op: api.StReturn, At: at("return;")},
				{Op: api.StReturn, At: at("return d"), Exprs: []api.Expr{d}},
				{Op: api.StTell, At: at("tell"), Exprs: []api.Expr{num(at("tell")+5, 1)}},
				{Op: api.StFail, At: at("fail"), Num: 3},
				{Op: api.StSet, At: place, Exprs: []api.Expr{{Op: api.ExField, At: place + 3, Name: "x", Kids: []api.Expr{name(place+1, "a")}}, num(place+8, 2)}},
				{Op: api.StSet, At: row, Exprs: []api.Expr{{Op: api.ExAt, At: row + 1, Kids: []api.Expr{name(row, "a"), num(row+2, 0)}}, {Op: api.ExNull, At: row + 7}}},
			}},
			{At: at("g ( )"), Name: "g"},
		},
	}
	if !alike(p, want) {
		t.Errorf("%v\nwanted\n%v", p, want)
	}
}

func TestP11_1WhatLexRefuses(t *testing.T) {
	for _, src := range []string{"#", "fun f() { } #", ") ) 12a", "fun f( 2147483649", strings.Repeat(" ", 65537), strings.Repeat("( ", 16385), "1 + _a", strings.Repeat("(", 70) + "&"} {
		_, want := lex.Scan(src)
		if _, err := parse.Parse(src); err == nil || err != want {
			t.Errorf("%.20q: %v, wanted %v", src, err, want)
		}
		if _, err := parse.Expr(src); err == nil || err != want {
			t.Errorf("%.20q: %v, wanted %v", src, err, want)
		}
	}
}

func TestP11_1NoText(t *testing.T) {
	for _, src := range []string{"", "  ", "// nothing\n", "//", "\n\t\r "} {
		if p := good(t, src); len(p.Records)+len(p.Funs) > 0 {
			t.Error(p)
		}
		if _, f := anExpr(t, src); f != (api.Fault{At: len(src), Why: api.ErrToken}) {
			t.Errorf("%q: %v", src, f)
		}
	}
}

func TestP11_1TheGreatestTexts(t *testing.T) {
	full := strings.Repeat("record p { } ", 16384/4)
	if p := good(t, full); len(p.Records) != 4096 {
		t.Error(len(p.Records))
	}
	if _, f := parsed(t, full+"fun"); f != (api.Fault{At: len(full), Why: api.ErrLong}) {
		t.Error(f)
	}
	long := "fun f() { }" + strings.Repeat(" ", 65536-11)
	good(t, long)
	if _, f := parsed(t, long+" "); f != (api.Fault{At: 0, Why: api.ErrLong}) {
		t.Error(f)
	}
	cut := "fun f() {" + strings.Repeat(" ", 65536-9)
	if _, f := parsed(t, cut); f != (api.Fault{At: 65536, Why: api.ErrToken}) {
		t.Error(f)
	}
}

func TestExamplesOfChapter11(t *testing.T) {
	p := good(t, "fun f(n int) int { return n + 1; }")
	s := p.Funs[0].Body[0]
	if len(p.Funs) != 1 || p.Funs[0].Of != "int" || s.Op != api.StReturn || said(s.Exprs[0]) != "add@28 (name@26 n) (int@30 1)" {
		t.Error(p)
	}
	if text := parse.Print(p); text != "fun f(n int) int {\n  return n + 1;\n}\n" {
		t.Errorf("%q", text)
	}
	for a, b := range map[string]string{"1 - 2 - 3": "(1 - 2) - 3", "-a.x": "-(a.x)", "!a == b": "(!a) == b", "a as p is q": "(a as p) is q"} {
		x, f := anExpr(t, a)
		y, g := anExpr(t, b)
		if f != (api.Fault{}) || g != (api.Fault{}) || !parse.Same(telling(x), telling(y)) {
			t.Error(a, b)
		}
	}
	if _, f := anExpr(t, "a < b < c"); f != (api.Fault{At: 6, Why: api.ErrToken}) {
		t.Error(f)
	}
	for src, at := range map[string]int{"fun f() { 1; }": 11, "fun f() { 1 = 2; }": 12, "fun f(": 6, "f": 0} {
		isWrong(t, "program", src, at)
	}
}

func TestP11_1AFaultIsAValue(t *testing.T) {
	for src, why := range map[string]api.Errno{"fun": api.ErrToken, strings.Repeat("(", 65): api.ErrDeep, "#": api.ErrByte} {
		_, err := parse.Expr(src)
		for n := api.Errno(1); n < 300; n++ {
			if errors.Is(err, n) != (n == why) {
				t.Errorf("%q: %v is %d", src, err, n)
			}
		}
		var f api.Fault
		if !errors.As(err, &f) || f.Why != why {
			t.Errorf("%q: %v", src, err)
		}
	}
}
