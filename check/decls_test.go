package check_test

import (
	"fmt"
	"strings"
	"testing"

	"proviso/api"
)

// row is so many pieces, numbered, with a mark between.
func row(n int, piece, between string) string {
	var l []string
	for i := range n {
		l = append(l, fmt.Sprintf(piece, i))
	}
	return strings.Join(l, between)
}

func TestP12_1Records(t *testing.T) {
	most := row(32, "record p%d { }", " ")
	good(t, most)
	good(t, "record p { a q, b p } record q : p { c any } record r : q { }")
	isFault(t, most+" record @p32 { }", api.ErrMany)
	isFault(t, most+" record @p32 { } record p33 { }", api.ErrMany)
	isFault(t, most+" record @p0 : gone { }", api.ErrMany)
	isFault(t, "record p { } record q { } record @p { }", api.ErrTwice)
	isFault(t, "record p { } record @p : gone { }", api.ErrTwice)
	isFault(t, "record @p : gone { }", api.ErrParent)
	isFault(t, "record @p : p { }", api.ErrParent)
	isFault(t, "record @p : q { } record q { }", api.ErrParent)
	isFault(t, "record @p : int1 { }", api.ErrParent)
	isFault(t, "fun q() { } record @p : q { }", api.ErrParent)
	// All records come ahead of all fields.
	isFault(t, "record p { x gone, x int } record @p { }", api.ErrTwice)
	isFault(t, "record p { x gone } record q { } record @r : s { }", api.ErrParent)
	// Records and functions may have the same names.
	good(t, "record p { p int } fun p(p p) p { var x p = p(p); return x; }")
}

func TestP12_1Fields(t *testing.T) {
	for _, word := range []string{"int", "bool", "ints", "any", "p", "q"} {
		good(t, "record p { x "+word+" } record q { }")
	}
	isFault(t, "record p { x int, @x int }", api.ErrTwice)
	isFault(t, "record p { x int, y int, @x gone }", api.ErrTwice)
	isFault(t, "record p { x int } record q : p { y int } record r : q { z int, @x gone }", api.ErrTwice)
	good(t, "record p { x int } record q { x int } record r : p { y int } record s : p { y bool }")
	isFault(t, "record p { @x gone }", api.ErrUnknown)
	isFault(t, "record p { @x top }", api.ErrUnknown)
	isFault(t, "record p { @x f } fun f() { }", api.ErrUnknown)
	isFault(t, "record p { @x gone, x int }", api.ErrUnknown)
	isFault(t, "record p { @x gone } record q { x int, x int }", api.ErrUnknown)
	most := row(32, "x%d int", ", ")
	good(t, "record p { "+most+" }")
	isFault(t, "record p { "+most+", @y int }", api.ErrMany)
	isFault(t, "record p { "+most+", @y int, z int, y int }", api.ErrMany)
	isFault(t, "record p { "+most+", @y gone }", api.ErrUnknown)
	isFault(t, "record p { "+most+", @x7 gone }", api.ErrTwice)
	good(t, "record p { "+most+" } record q : p { } record r { "+most+" }")
	isFault(t, "record p { "+most+" } record q : p { @y int }", api.ErrMany)
	good(t, "record p { "+row(16, "x%d int", ", ")+" } record q : p { "+row(16, "y%d int", ", ")+" }")
	isFault(t, "record p { "+row(16, "x%d int", ", ")+" } record q : p { "+row(16, "y%d int", ", ")+", @y int }", api.ErrMany)
	isFault(t, "record p { x int, @x int } fun f(a gone) { } fun f() { }", api.ErrTwice)
}

func TestP12_1Functions(t *testing.T) {
	most := row(64, "fun f%d() { }", " ")
	good(t, most)
	isFault(t, most+" fun @f64() { }", api.ErrMany)
	isFault(t, most+" fun @f0(a gone) { }", api.ErrMany)
	isFault(t, "fun f() { } fun g() { } fun @f(a gone) { }", api.ErrTwice)
	params := row(8, "a%d int", ", ")
	good(t, "fun f("+params+") { }")
	isFault(t, "fun f("+params+", @b int) { }", api.ErrMany)
	isFault(t, "fun f("+params+", @a0 gone) gone { }", api.ErrMany)
	isFault(t, "fun f(a int, b int, @a gone) { }", api.ErrTwice)
	isFault(t, "fun f(a int, @b gone, a int) { }", api.ErrUnknown)
	isFault(t, "fun f(a int, @b top) { }", api.ErrUnknown)
	isFault(t, "fun @f(a int) gone { }", api.ErrUnknown)
	isFault(t, "fun @f() top { }", api.ErrUnknown)
	isFault(t, "fun f(@a gone) gone { }", api.ErrUnknown)
	isFault(t, "fun f(@a gone) { } fun f() { }", api.ErrUnknown)
	// All functions come ahead of all bodies.
	isFault(t, "fun f() { break; } fun g() int { } fun @f() { }", api.ErrTwice)
	isFault(t, "fun f() int { break; } fun g(@a gone) { }", api.ErrUnknown)
	good(t, "fun f(a int, b p, c ints) p { return b; } record p { }")
}

func TestP12_1FunctionByFunction(t *testing.T) {
	isFault(t, "fun f() { @break; } fun g() { continue; }", api.ErrPlace)
	isFault(t, "fun @f() int { tell 1; } fun g() { break; }", api.ErrEnd)
	isFault(t, "fun f() int { @break; } fun g() { }", api.ErrPlace)
	isFault(t, "fun f() int { tell @null; } fun g() { }", api.ErrMust)
	isFault(t, "fun f() { } fun @g() int { } fun h() int { }", api.ErrEnd)
}

func TestExamplesOfChapter12(t *testing.T) {
	const loop = "fun f(n int) int { var a int = n; while a > 0 { a = a - 1; } "
	p := good(t, loop+"return a; }")
	b := p.Funs[0].Body
	if p.Funs[0].Locals != 2 || b[0].Ref != 1 || b[0].Type != api.TInt || b[0].Exprs[0].Ref != 0 || b[2].Exprs[0].Ref != 1 {
		t.Error(p)
	}
	isFault(t, strings.Replace(loop, " f", " @f", 1)+"}", api.ErrEnd)

	const table = "record p { x int } record q : p { y any } "
	p = good(t, table+"fun f(r q) int { return r.x; }")
	if e := p.Funs[0].Body[0].Exprs[0]; e.Ref != 0 || e.Class != 1 || e.Type != api.TInt {
		t.Error(e)
	}
	isFault(t, table+"fun f(r q) int { return r@.z; }", api.ErrUnknown)
	good(t, table+"fun f(r q) { r = null; var s p = r; }")
	isFault(t, table+"fun f(r q) { var s p = r; var t q = @s; }", api.ErrMust)

	isFault(t, "fun f() { var a int = @a; }", api.ErrUnknown)
	isFault(t, "fun f() { var a int = 1; if true { @var a int = 2; } }", api.ErrTwice)
	isFault(t, "fun f() { @break; }", api.ErrPlace)

	isFault(t, "fun f(n int) { tell 1; } fun g() { var b bool = f(1) @== 2; }", api.ErrMust)
	isFault(t, "fun f() { tell @null.x; }", api.ErrMust)
	good(t, "fun f() { var b bool = null == null; }")
	isFault(t, "fun f() { tell @2147483648; }", api.ErrRange)
	good(t, "fun f() { tell -2147483648; }")
}
