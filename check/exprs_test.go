package check_test

import (
	"fmt"
	"strings"
	"testing"

	"proviso/api"
)

// parts are expressions of each type, with its word in chapter 12's sense.
func parts() map[string]string {
	return map[string]string{"1": "int", "b": "bool", "s": "ints", "a": "any", "null": "null", "v": "p", "w": "q", "z": "r", "none()": "none"}
}

// isOf is the order of those words.
func isOf(a, b string) bool {
	return a == b || a == "null" && strings.Contains(" ints any p q r ", " "+b+" ") || b == "any" && strings.Contains(" ints p q r ", " "+a+" ") || a == "q" && b == "p"
}

func TestP12_1EachMarkWithEachTwo(t *testing.T) {
	for _, mark := range strings.Fields("* / % + - < <= > >= == != && ||") {
		for x, a := range parts() {
			for y, b := range parts() {
				first, second, whole := marked(mark, a, b)
				body := "var c bool = %s%s %s%s %s%s;"
				if strings.Contains("*/%+-", mark) {
					body = "tell %s%s %s%s %s%s;"
				}
				switch {
				case first:
					isBad(t, api.ErrMust, fmt.Sprintf(body, "@", x, "", mark, "", y))
				case second:
					isBad(t, api.ErrMust, fmt.Sprintf(body, "", x, "", mark, "@", y))
				case whole:
					isBad(t, api.ErrMust, fmt.Sprintf(body, "", x, "@", mark, "", y))
				default:
					isGood(t, fmt.Sprintf(body, "", x, "", mark, "", y))
				}
			}
		}
	}
}

// marked tells where an expression of two types is at fault: at its first part, its second one, or as a whole.
func marked(mark, a, b string) (bool, bool, bool) {
	switch mark {
	case "==", "!=":
		plain := a == b && (a == "int" || a == "bool")
		refs := isOf(a, "any") || a == "null"
		refs = refs && (isOf(b, "any") || b == "null") && (isOf(a, b) || isOf(b, a))
		return false, false, !plain && !refs
	case "&&", "||":
		return a != "bool", b != "bool", false
	}
	return a != "int", b != "int", false
}

func TestP12_1EachPartOfEachKind(t *testing.T) {
	for x, a := range parts() {
		for body, fits := range map[string]bool{
			"tell -%s;":                a == "int",
			"b = !%s;":                 a == "bool",
			"s = new ints(%s);":        a == "int",
			"tell len(%s);":            a == "ints",
			"tell s[%s];":              a == "int",
			"tell %s[1];":              a == "ints",
			"tell %s.x;":               a == "p" || a == "q",
			"v = %s as q;":             isOf(a, "any") || a == "null",
			"b = %s is q;":             isOf(a, "any") || a == "null",
			"tell num(%s);":            a == "int",
			"v = two(%s, b);":          isOf(a, "p"),
			"v = two(v, %s);":          a == "bool",
			"f(i, b, %s, a, v, w, z);": isOf(a, "ints"),
			"f(i, b, s, %s, v, w, z);": isOf(a, "any"),
			"f(i, b, s, a, v, %s, z);": isOf(a, "q"),
		} {
			if a == "r" && strings.HasPrefix(body, "tell %s.x") {
				isBad(t, api.ErrUnknown, fmt.Sprintf(strings.Replace(body, ".", "@.", 1), x))
			} else if fits {
				isGood(t, fmt.Sprintf(body, x))
			} else {
				isBad(t, api.ErrMust, fmt.Sprintf(strings.Replace(body, "%s", "@%s", 1), x))
			}
		}
	}
}

func TestP12_1Numbers(t *testing.T) {
	isGood(t, "tell 2147483647; tell -2147483648; tell -2147483647; tell 0; tell -(-2147483648);")
	isBad(t, api.ErrRange, "tell @2147483648;")
	isBad(t, api.ErrRange, "tell -(@2147483648);")
	isBad(t, api.ErrRange, "tell -@2147483648.x;")
	isBad(t, api.ErrRange, "tell 1 - @2147483648;")
	isBad(t, api.ErrRange, "b = @2147483648;")
}

func TestP12_1Names(t *testing.T) {
	isBad(t, api.ErrUnknown, "tell @gone;")
	isBad(t, api.ErrUnknown, "tell @none;")
	isBad(t, api.ErrUnknown, "tell @p;")
	isBad(t, api.ErrUnknown, "tell @x;")
	isBad(t, api.ErrUnknown, "v = a @as gone;")
	isBad(t, api.ErrUnknown, "b = a @is gone;")
	isBad(t, api.ErrUnknown, "tell @i(1);")
	isBad(t, api.ErrUnknown, "tell @p(1);")
	isBad(t, api.ErrUnknown, "tell v@.y;")
	isBad(t, api.ErrUnknown, "tell v@.x0;")
	isGood(t, "tell w.x; a = w.y; tell v.n.n.x; tell (w as p).x; tell (a as q).x; b = v is q; b = null is p; v = null as q; b = s is p; tell (new q).x;")
}

func TestP12_1NewOfNoRecord(t *testing.T) {
	for _, name := range []string{"gone", "none", "v", "top"} {
		p := parsed(t, world+"fun f(v p) { v = new "+name+"; }")
		want := api.Fault{At: p.Funs[3].Body[0].Exprs[1].At, Why: api.ErrUnknown}
		if _, f := checked(t, p); f != want {
			t.Error(name, f, want)
		}
	}
}

func TestP12_1InWhichOrder(t *testing.T) {
	// Parts from the left, each with all that is in it, and held against its type ahead of the next one.
	isBad(t, api.ErrUnknown, "tell @gone + none();")
	isBad(t, api.ErrMust, "tell @b + gone;")
	isBad(t, api.ErrUnknown, "tell 1 + @gone;")
	isBad(t, api.ErrMust, "b = @i && gone;")
	isBad(t, api.ErrMust, "b = @b < gone;")
	isBad(t, api.ErrMust, "tell @a[gone];")
	isBad(t, api.ErrMust, "tell @null[gone];")
	isBad(t, api.ErrMust, "tell s[@b] + gone;")
	isBad(t, api.ErrMust, "tell -@b + gone;")
	isBad(t, api.ErrMust, "tell 1 @== 2;")
	// Both sides, then whether they fit.
	isBad(t, api.ErrUnknown, "b = i == @gone;")
	isBad(t, api.ErrUnknown, "b = none() == @gone;")
	isBad(t, api.ErrMust, "b = none() @== none();")
	// All arguments, then the name, then how many, then their types.
	isBad(t, api.ErrUnknown, "gone(1, @gone);")
	isBad(t, api.ErrUnknown, "num(b, @gone);")
	isBad(t, api.ErrUnknown, "two(1, @gone);")
	isBad(t, api.ErrUnknown, "@gone(none());")
	isBad(t, api.ErrCount, "@num(b, b);")
	isBad(t, api.ErrCount, "@num();")
	isBad(t, api.ErrCount, "@two(1);")
	isBad(t, api.ErrMust, "two(@1, 2);")
	isBad(t, api.ErrMust, "two(v, @2);")
	isBad(t, api.ErrMust, "num(-@b);")
	isBad(t, api.ErrMust, "num(@none());")
	// What stands ahead of as and is, then the name, then what it must be.
	isBad(t, api.ErrUnknown, "v = @gone as p;")
	isBad(t, api.ErrUnknown, "v = 1 @as gone;")
	isBad(t, api.ErrUnknown, "b = none() @is gone;")
	isBad(t, api.ErrMust, "v = @1 as p;")
	isBad(t, api.ErrMust, "b = (1 @+ 2) is p;")
	// What stands ahead of a field, what that must be, then the name.
	isBad(t, api.ErrUnknown, "tell @gone.y;")
	isBad(t, api.ErrMust, "tell @a.y;")
	isBad(t, api.ErrMust, "tell @s.x;")
	isBad(t, api.ErrMust, "tell @null.y;")
	isBad(t, api.ErrMust, "tell i + v@.n;")
	// The whole comes last.
	isBad(t, api.ErrMust, "b = 1 @+ 2;")
	isBad(t, api.ErrMust, "tell num(1) == 2 @|| b;")
}

func TestP12_1EachExpressionHasItsTypeAndNumber(t *testing.T) {
	for src, want := range map[string]api.Expr{
		"7":           {Type: api.TInt},
		"true":        {Type: api.TBool},
		"null":        {Type: api.TNull},
		"w":           {Type: api.TClass + 1, Ref: 5},
		"i":           {Type: api.TInt},
		"-i":          {Type: api.TInt},
		"!b":          {Type: api.TBool},
		"i / 2":       {Type: api.TInt},
		"i >= 2":      {Type: api.TBool},
		"v == null":   {Type: api.TBool},
		"b || b":      {Type: api.TBool},
		"num(2)":      {Type: api.TInt, Ref: 1},
		"two(v, b)":   {Type: api.TClass + 1, Ref: 2},
		"none()":      {Type: api.TTop},
		"new r":       {Type: api.TClass + 2, Ref: 2},
		"new ints(3)": {Type: api.TInts},
		"v.n":         {Type: api.TClass, Ref: 1},
		"w.n":         {Type: api.TClass, Ref: 1, Class: 1},
		"w.y":         {Type: api.TAny, Ref: 2, Class: 1},
		"w.x":         {Type: api.TInt, Class: 1},
		"s[i]":        {Type: api.TInt},
		"len(s)":      {Type: api.TInt},
		"a as r":      {Type: api.TClass + 2, Ref: 2},
		"a is q":      {Type: api.TBool, Ref: 1},
		"(a as q).y":  {Type: api.TAny, Ref: 2, Class: 1},
	} {
		of := map[api.Type]string{api.TInt: "int", api.TBool: "bool", api.TNull: "any", api.TInts: "ints", api.TAny: "any", api.TClass: "p", api.TClass + 1: "q", api.TClass + 2: "r"}[want.Type]
		body := "var c " + of + " = " + src + ";"
		if want.Type == api.TTop {
			body = src + ";"
		}
		p := good(t, world+"fun f(i int, b bool, s ints, a any, v p, w q, z r) { "+body+" }")
		if e := p.Funs[3].Body[0].Exprs[0]; e.Type != want.Type || e.Ref != want.Ref || e.Class != want.Class {
			t.Errorf("%s: %v", src, e)
		}
	}
}
