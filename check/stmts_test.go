package check_test

import (
	"testing"

	"proviso/api"
	"proviso/check"
)

// world is declarations for the bodies that are tried.
const world = "record p { x int, n p } record q : p { y any } record r { } fun none() { } fun num(n int) int { return n; } fun two(a p, b bool) q { return null; } "

// isBad tries statements with a mark, with some variables of each type around.
func isBad(t *testing.T, why api.Errno, body string) {
	t.Helper()
	isFault(t, world+"fun f(i int, b bool, s ints, a any, v p, w q, z r) { "+body+" }", why)
}

func isGood(t *testing.T, body string) {
	t.Helper()
	good(t, world+"fun f(i int, b bool, s ints, a any, v p, w q, z r) { "+body+" }")
}

func TestP12_1Variables(t *testing.T) {
	isGood(t, "var c int = 1; var d bool = true; var e ints = s; var g any = w; var h p = w; var j q = null; var k ints = null; var l any = null;")
	isBad(t, api.ErrMust, "var c int = @b;")
	isBad(t, api.ErrMust, "var c q = @v;")
	isBad(t, api.ErrMust, "var c p = @a;")
	isBad(t, api.ErrMust, "var c int = @null;")
	isBad(t, api.ErrMust, "var c any = @1;")
	isBad(t, api.ErrMust, "var c any = @none();")
	isBad(t, api.ErrMust, "var c int = @none();")
	// The type's word, then the expression, then the name, then how many there are.
	isBad(t, api.ErrUnknown, "@var i gone = gone;")
	isBad(t, api.ErrUnknown, "@var c top = 1;")
	isBad(t, api.ErrUnknown, "@var c none = 1;")
	isBad(t, api.ErrUnknown, "var i int = @gone;")
	isBad(t, api.ErrMust, "var i int = @b;")
	isBad(t, api.ErrTwice, "@var i int = 1;")
	isBad(t, api.ErrTwice, "@var w int = 1;")
	isBad(t, api.ErrUnknown, "var c int = @c;")
	isBad(t, api.ErrUnknown, "var c int = 1 + @c;")
	// Functions and records are no variables.
	isGood(t, "var none int = num(1); var p p = v; var f int = none;")
	isBad(t, api.ErrUnknown, "i = @num;")
}

func TestP12_1HowManyLocals(t *testing.T) {
	vars := row(9, "var c%d int = i;", " ")
	isGood(t, vars)
	isBad(t, api.ErrMany, vars+" @var c9 int = 1;")
	isBad(t, api.ErrTwice, vars+" @var c3 int = 1;")
	isBad(t, api.ErrMust, vars+" var c9 int = @b;")
	isBad(t, api.ErrUnknown, vars+" var c9 int = @c9;")
	isBad(t, api.ErrMany, "while b { "+row(8, "var c%d int = i;", " ")+" } var d int = 1; if b { @var e int = 1; }")
	good(t, "fun f() { "+row(16, "var c%d int = 1;", " ")+" }")
	isFault(t, "fun f() { "+row(16, "var c%d int = 1;", " ")+" @var d int = 1; }", api.ErrMany)
	good(t, "fun f() { "+row(16, "if true { var c int = %d; }", " ")+" } fun g() { "+row(16, "var c%d int = 1;", " ")+" }")
	isFault(t, "fun f() { "+row(16, "if true { var c int = %d; }", " ")+" while false { @var c int = 1; } }", api.ErrMany)
}

func TestP12_1WhereANameIsSeen(t *testing.T) {
	isGood(t, "if b { var c int = 1; i = c; } else { var c bool = b; b = c; } while b { var c p = v; v = c; } var c any = a; a = c;")
	isBad(t, api.ErrUnknown, "if b { var c int = 1; } else { i = @c; }")
	isBad(t, api.ErrUnknown, "if b { var c int = 1; } i = @c;")
	isBad(t, api.ErrUnknown, "while b { var c int = 1; } tell @c;")
	isBad(t, api.ErrUnknown, "i = @c; var c int = 1;")
	isBad(t, api.ErrUnknown, "while @c { var c bool = true; }")
	isBad(t, api.ErrTwice, "var c int = 1; while b { if b { @var c int = 2; } }")
	isBad(t, api.ErrTwice, "if b { } else { @var b bool = b; }")
	isGood(t, "var c int = 1; if b { if b { tell c; } var d int = c; tell d; } else { var d int = 2; tell c + d; }")
	isFault(t, "fun f(a int) { var c int = a; } fun g() { tell @c; }", api.ErrUnknown)
	isFault(t, "fun f(a int) { } fun g() { tell @a; }", api.ErrUnknown)
	p := good(t, "fun f(a int) { if true { var b int = 1; } else { var c int = 2; var d int = c; } var b int = a; tell b; }")
	b := p.Funs[0].Body
	if p.Funs[0].Locals != 5 || b[0].Body[0].Ref != 1 || b[0].Else[0].Ref != 2 || b[0].Else[1].Ref != 3 || b[0].Else[1].Exprs[0].Ref != 2 || b[1].Ref != 4 || b[2].Exprs[0].Ref != 4 {
		t.Error(p)
	}
}

func TestP12_1Sets(t *testing.T) {
	isGood(t, "i = 1; b = i > 2; s = null; a = s; a = v; v = w; v = null; v.x = 1; w.x = 2; w.y = s; v.n = w; v.n.n.x = 3; s[0] = i; s[i] = s[1]; two(v, b).x = 4; new ints(3)[0] = 1;")
	isBad(t, api.ErrMust, "i = @b;")
	isBad(t, api.ErrMust, "w = @v;")
	isBad(t, api.ErrMust, "v = @a;")
	isBad(t, api.ErrMust, "s[0] = @b;")
	isBad(t, api.ErrMust, "v.x = @null;")
	isBad(t, api.ErrMust, "v.n = @z;")
	isBad(t, api.ErrMust, "i = @none();")
	isBad(t, api.ErrMust, "a = @none();")
	isBad(t, api.ErrUnknown, "@c = gone;")
	isBad(t, api.ErrUnknown, "v@.y = gone;")
	isBad(t, api.ErrMust, "s[@b] = gone;")
	isBad(t, api.ErrMust, "@a[0] = gone;")
	isBad(t, api.ErrUnknown, "v.x = @gone;")
}

func TestP12_1IfsAndWhiles(t *testing.T) {
	isBad(t, api.ErrMust, "if @i { break; }")
	isBad(t, api.ErrMust, "while @null { break; }")
	isBad(t, api.ErrMust, "if @none() { }")
	isBad(t, api.ErrMust, "while @none() { }")
	isBad(t, api.ErrPlace, "if b { @break; } else { continue; }")
	isBad(t, api.ErrPlace, "if b { } else { @continue; }")
	isGood(t, "while b { break; continue; if b { break; } else { continue; } while b { } break; }")
	isBad(t, api.ErrPlace, "while b { while b { } break; } @break;")
	isBad(t, api.ErrPlace, "while b { if b { } } if b { @continue; }")
	isFault(t, "fun f() { while true { break; } } fun g() { @break; }", api.ErrPlace)
}

func TestP12_1Returns(t *testing.T) {
	isGood(t, "return; return;")
	isBad(t, api.ErrPlace, "@return gone;")
	isBad(t, api.ErrPlace, "@return none();")
	for _, x := range []struct {
		src string
		why api.Errno
	}{
		{"fun f() int { @return; }", api.ErrPlace},
		{"fun f() int { return @true; }", api.ErrMust},
		{"fun f() int { return @gone; }", api.ErrUnknown},
		{"fun f() any { return @1; }", api.ErrMust},
		{"fun f() any { return @g(); } fun g() { }", api.ErrMust},
		{"record p { } record q : p { } fun f(a p) q { return @a; }", api.ErrMust},
	} {
		isFault(t, x.src, x.why)
	}
	good(t, "record p { } record q : p { } fun f(a q) p { return a; } fun g() any { return null; } fun h() ints { return null; } fun i(a q) any { return a; }")
}

func TestP12_1TellsAndFails(t *testing.T) {
	isGood(t, "tell 1; tell i; fail 0; fail 200;")
	isBad(t, api.ErrMust, "tell @b;")
	isBad(t, api.ErrMust, "tell @null;")
	isBad(t, api.ErrMust, "tell @none();")
	isBad(t, api.ErrRange, "@fail 201;")
	isBad(t, api.ErrRange, "@fail 2147483648;")
}

func TestP12_1CallsAsStatements(t *testing.T) {
	isGood(t, "none(); num(1); two(v, b); f(i, b, s, a, v, w, z);")
	isBad(t, api.ErrCount, "@none(1);")
	isBad(t, api.ErrUnknown, "@gone();")
}

func TestP12_1TheEndOfAFunction(t *testing.T) {
	for body, fits := range map[string]bool{
		"":                                       false,
		"return 1;":                              true,
		"fail 3;":                                true,
		"tell 1;":                                false,
		"return 1; tell 1;":                      false,
		"tell 1; return 1;":                      true,
		"return 1; var b int = 1; fail 1;":       true,
		"if true { return 1; }":                  false,
		"if true { return 1; } else { }":         false,
		"if true { } else { return 1; }":         false,
		"if true { return 1; } else { fail 2; }": true,
		"if true { return 1; } else if true { fail 2; }":                      false,
		"if true { return 1; } else if true { fail 2; } else { return 3; }":   true,
		"if true { if true { fail 1; } else { fail 2; } } else { return 1; }": true,
		"if true { return 1; tell 2; } else { return 1; }":                    false,
		"while true { return 1; }":                                            false,
		"while true { } return 1;":                                            true,
		"f();":                                                                false,
		"return 1; while true { break; }":                                     false,
	} {
		if fits {
			good(t, "fun f() int { "+body+" }")
		} else {
			isFault(t, "fun @f() int { "+body+" }", api.ErrEnd)
		}
		if l := parsed(t, "fun f() int { "+body+" }").Funs[0].Body; check.Ends(l) != fits {
			t.Errorf("%s: Ends", body)
		}
	}
}
