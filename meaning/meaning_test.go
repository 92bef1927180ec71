package meaning_test

import (
	"math"
	"math/big"
	"slices"
	"strconv"
	"strings"
	"testing"

	"proviso/api"
	"proviso/meaning"
)

func TestP15_1Admits(t *testing.T) {
	const i, b = api.TInt, api.TBool
	for _, x := range []struct {
		params []api.Type
		args   []int
		want   bool
	}{
		{nil, nil, true}, {nil, []int{}, true}, {[]api.Type{}, nil, true},
		{nil, []int{0}, false}, {[]api.Type{i}, nil, false}, {[]api.Type{i}, []int{1, 2}, false}, {[]api.Type{i, i}, []int{1}, false},
		{[]api.Type{i}, []int{0}, true}, {[]api.Type{i}, []int{math.MaxInt32}, true}, {[]api.Type{i}, []int{math.MinInt32}, true},
		{[]api.Type{i}, []int{math.MaxInt32 + 1}, false}, {[]api.Type{i}, []int{math.MinInt32 - 1}, false},
		{[]api.Type{i}, []int{math.MaxInt}, false}, {[]api.Type{i}, []int{math.MinInt}, false}, {[]api.Type{i}, []int{1 << 32}, false},
		{[]api.Type{b}, []int{0}, true}, {[]api.Type{b}, []int{1}, true}, {[]api.Type{b}, []int{2}, false}, {[]api.Type{b}, []int{-1}, false},
		{[]api.Type{b}, []int{math.MaxInt}, false}, {[]api.Type{b}, []int{1 << 32}, false}, {[]api.Type{b}, []int{1<<32 + 1}, false},
		{[]api.Type{i, b, i}, []int{7, 1, -7}, true}, {[]api.Type{i, b, i}, []int{7, 7, 7}, false},
		{[]api.Type{i, b, i}, []int{1 << 40, 1, 7}, false}, {[]api.Type{i, b, i}, []int{7, 1, 1 << 40}, false},
		{[]api.Type{i, api.TAny}, []int{0, 0}, false}, {[]api.Type{api.TInts, i}, []int{0, 0}, false},
		{slices.Repeat([]api.Type{i}, 8), make([]int, 8), true}, {slices.Repeat([]api.Type{i}, 8), make([]int, 9), false},
	} {
		for _, result := range []api.Type{api.TTop, i, b, api.TAny, 99} { // plays no part
			if got := meaning.Admits(api.Sig{Params: x.params, Result: result}, x.args); got != x.want {
				t.Error(x, result)
			}
		}
	}
	for c := range 256 { // no other type comes from outside, 0 and 1 neither
		p := api.Type(c)
		for _, n := range []int{0, 1} {
			if got := meaning.Admits(api.Sig{Params: []api.Type{p}}, []int{n}); got != (p == i || p == b) {
				t.Error(p, n, got)
			}
		}
	}
}

func TestP15_2Refused(t *testing.T) {
	const good = "fun f(a int, b bool) int { return a; } fun g() { } fun h(o any) { } record p { x int } fun k(o p) { } fun l(s ints) { }"
	const bad = "fun f(a int, b bool) int { return b; }"
	args := []int{7, 1}
	for _, x := range []struct {
		src        string
		entry      int
		args       []int
		fuel, room int
		why        api.Errno
	}{
		{good, 0, args, 9, 9, api.OK}, {good, 0, args, api.MaxFuel, api.MaxRoom, api.OK}, {good, 0, args, 2, 0, api.OK}, {good, 1, nil, 0, 0, api.OK}, {good, 1, []int{}, 0, 0, api.OK},
		{good, 0, args, -1, 9, api.ErrArg}, {good, 0, args, api.MaxFuel + 1, 9, api.ErrArg}, {good, 0, args, math.MinInt, 9, api.ErrArg}, {good, 0, args, math.MaxInt, 9, api.ErrArg},
		{good, 0, args, 9, -1, api.ErrArg}, {good, 0, args, 9, api.MaxRoom + 1, api.ErrArg}, {good, 0, args, 9, math.MinInt, api.ErrArg}, {good, 0, args, 9, math.MaxInt, api.ErrArg},
		{bad, 0, args, 9, 9, api.ErrArg}, {bad, 5, nil, -1, -1, api.ErrArg}, {good, 5, nil, -1, 9, api.ErrArg}, {good, 5, nil, 9, -1, api.ErrArg}, {good, 0, nil, 9, -1, api.ErrArg}, {bad, 9, nil, 9, 9, api.ErrArg},
		{good, -1, args, 9, 9, api.ErrFunc}, {good, 5, args, 9, 9, api.ErrFunc}, {good, 5, nil, 0, 0, api.ErrFunc}, {good, math.MinInt, nil, 9, 9, api.ErrFunc}, {good, math.MaxInt, nil, 9, 9, api.ErrFunc},
		{"", 0, nil, 9, 9, api.ErrFunc}, {"record p { }", 0, nil, 9, 9, api.ErrFunc}, {"", 0, nil, -1, 9, api.ErrArg},
		{good, 0, nil, 9, 9, api.ErrArgs}, {good, 0, []int{7}, 9, 9, api.ErrArgs}, {good, 0, []int{7, 1, 0}, 9, 9, api.ErrArgs}, {good, 0, []int{7, 2}, 9, 9, api.ErrArgs},
		{good, 0, []int{1 << 31, 1}, 9, 9, api.ErrArgs}, {good, 0, []int{-1<<31 - 1, 1}, 9, 9, api.ErrArgs}, {good, 1, []int{0}, 9, 9, api.ErrArgs}, {good, 0, nil, 0, 0, api.ErrArgs},
		{good, 2, []int{0}, 9, 9, api.ErrArgs}, {good, 3, []int{0}, 9, 9, api.ErrArgs}, {good, 4, []int{0}, 9, 9, api.ErrArgs},
	} {
		o := meaning.Run(parsed(t, x.src), x.entry, x.args, x.fuel, x.room)
		if o.Err != x.why || x.why != api.OK && show(o) != show(api.Outcome{Err: x.why}) {
			t.Error(x, o)
		}
	}
	if o := meaning.Run(api.Program{}, 0, nil, 0, 0); show(o) != show(api.Outcome{Err: api.ErrFunc}) {
		t.Error(o)
	}
	sixtyFour := strings.Builder{}
	for i := range api.MaxFuncs {
		sixtyFour.WriteString("fun f" + strconv.Itoa(i) + "() int { return " + strconv.Itoa(i) + "; } ")
	}
	p := parsed(t, sixtyFour.String())
	for i := range api.MaxFuncs {
		if o := meaning.Run(p, i, nil, 9, 0); o.Err != api.OK || o.Result != i {
			t.Error(i, o)
		}
	}
}

// gives is an outcome as the tables below have it.
func gives(result, steps int, told ...int) api.Outcome {
	return api.Outcome{Result: result, Steps: steps, Told: told}
}

func traps(trap, steps int, told ...int) api.Outcome {
	return api.Outcome{Err: api.ErrTrap, Trap: trap, Steps: steps, Told: told}
}

func with(cells int, o api.Outcome) api.Outcome {
	o.Cells = cells
	return o
}

// isOutcome runs a text's first function, with fuel and room enough; and with just as much as it took, and one less.
func isOutcome(t *testing.T, src string, args []int, want api.Outcome) {
	t.Helper()
	p := parsed(t, src)
	for _, fuel := range []int{5000, want.Steps, api.MaxFuel} {
		if o := meaning.Run(p, 0, args, fuel, 100); show(o) != show(want) {
			t.Errorf("%.120s %v, fuel %d: %+v\nwanted %+v", src, args, fuel, o, want)
		}
	}
	if want.Steps > 0 {
		if o := meaning.Run(p, 0, args, want.Steps-1, 100); o.Err != api.ErrFuel || o.Steps != want.Steps-1 || o.Trap != 0 || o.Result != 0 {
			t.Errorf("%.120s %v, one less: %+v", src, args, o)
		}
	}
}

// records and functions that the expressions and statements below may name.
const above = ` record p { x int, o any, s ints } record q : p { y bool, n q } record r { }
fun say(n int) int { tell n; return n; } fun yes(n int) bool { tell n; return true; } fun no(n int) bool { tell n; return false; }
fun one(o any) any { tell 1; return o; } fun row(n int) ints { tell n; return new ints(3); } fun none(n int) ints { tell n; return null; }
fun rec(n int) p { tell n; return new p; } fun nil(n int) p { tell n; return null; } fun nothing() { } `

func TestP15_2Expressions(t *testing.T) {
	for _, x := range []struct {
		kind, e string
		want    api.Outcome
	}{
		{"int", "7", gives(7, 2)}, {"int", "-2147483648", gives(math.MinInt32, 2)}, {"int", "2147483647", gives(math.MaxInt32, 2)},
		{"bool", "true", gives(1, 2)}, {"bool", "false", gives(0, 2)}, {"any", "null", gives(0, 2)},
		{"int", "-7", gives(-7, 3)}, {"int", "-(-2147483648)", gives(math.MinInt32, 3)}, {"bool", "!true", gives(0, 3)}, {"bool", "!false", gives(1, 3)}, {"bool", "!!true", gives(1, 4)},
		{"int", "a", gives(4, 2)}, {"bool", "b", gives(1, 2)}, {"int", "a + a * a", gives(20, 6)}, {"int", "a - 5 - 6", gives(-7, 6)},
		{"int", "say(1) - say(2)", gives(-1, 14, 1, 2)}, // each call of the two: itself, its argument, two statements, an expression in each
		{"bool", "say(2) < say(1)", gives(0, 14, 2, 1)},
		{"bool", "no(1) && yes(2)", gives(0, 8, 1)}, {"bool", "yes(1) && no(2)", gives(0, 14, 1, 2)}, {"bool", "yes(1) && yes(2)", gives(1, 14, 1, 2)},
		{"bool", "yes(1) || yes(2)", gives(1, 8, 1)}, {"bool", "no(1) || no(2)", gives(0, 14, 1, 2)}, {"bool", "no(1) || yes(2)", gives(1, 14, 1, 2)},
		{"bool", "b || 1 / 0 == 1", gives(1, 3)}, {"bool", "!b && 1 / 0 == 1", gives(0, 4)}, {"bool", "b && 1 / 0 == 1", traps(api.TrapDivide, 7)},
		{"int", "7 / 0", traps(api.TrapDivide, 4)}, {"int", "7 % 0", traps(api.TrapDivide, 4)}, {"int", "say(1) / (0 * say(2))", traps(api.TrapDivide, 16, 1, 2)},
		{"any", "new p", with(4, gives(1, 2))}, {"any", "new q", with(6, gives(1, 2))}, {"any", "new r", with(1, gives(1, 2))},
		{"ints", "new ints(0)", with(1, gives(1, 3))}, {"ints", "new ints(9)", with(10, gives(1, 3))}, {"ints", "new ints(-1)", traps(api.TrapSize, 4)},
		{"ints", "new ints(99)", with(100, gives(1, 3))}, {"ints", "new ints(100)", traps(api.TrapRoom, 3)}, {"ints", "new ints(2147483647)", traps(api.TrapRoom, 3)}, {"ints", "new ints(-2147483648)", traps(api.TrapSize, 3)},
		{"int", "len(new ints(5))", with(6, gives(5, 4))}, {"int", "len(none(1))", traps(api.TrapNull, 8, 1)}, {"int", "len(row(0))", with(4, gives(3, 9, 0))},
		{"int", "(new ints(5))[4]", with(6, gives(0, 5))}, {"int", "(new ints(5))[5]", with(6, traps(api.TrapIndex, 5))}, {"int", "(new ints(5))[-1]", with(6, traps(api.TrapIndex, 6))},
		{"int", "(new ints(0))[0]", with(1, traps(api.TrapIndex, 5))}, {"int", "none(1)[say(-1)]", traps(api.TrapNull, 15, 1, -1)}, {"int", "row(1)[say(2)]", with(4, gives(0, 15, 1, 2))},
		{"int", "(new p).x", with(4, gives(0, 3))}, {"any", "(new p).o", with(4, gives(0, 3))}, {"bool", "(new q).y", with(6, gives(0, 3))}, {"int", "(new q).x", with(6, gives(0, 3))},
		{"int", "nil(1).x", traps(api.TrapNull, 8, 1)}, {"int", "(null as p).x", traps(api.TrapNull, 4)},
		{"any", "null as p", gives(0, 3)}, {"any", "new p as p", with(4, gives(1, 3))}, {"any", "new q as p", with(6, gives(1, 3))}, {"any", "new p as q", with(4, traps(api.TrapCast, 3))},
		{"any", "new r as p", with(1, traps(api.TrapCast, 3))}, {"any", "new ints(1) as p", with(2, traps(api.TrapCast, 4))}, {"any", "new q as p as q", with(6, gives(1, 4))},
		{"bool", "null is p", gives(0, 3)}, {"bool", "new p is p", with(4, gives(1, 3))}, {"bool", "new q is p", with(6, gives(1, 3))}, {"bool", "new p is q", with(4, gives(0, 3))},
		{"bool", "new r is p", with(1, gives(0, 3))}, {"bool", "new ints(1) is p", with(2, gives(0, 4))},
		{"bool", "new p == new p", with(8, gives(0, 4))}, {"bool", "new p != new p", with(8, gives(1, 4))}, {"bool", "null == null", gives(1, 4)}, {"bool", "new p == null", with(4, gives(0, 4))},
		{"bool", "null != new q", with(6, gives(1, 4))}, {"bool", "b == true", gives(1, 4)}, {"bool", "b != b", gives(0, 4)}, {"bool", "4 == a", gives(1, 4)}, {"bool", "a != 4", gives(0, 4)},
	} {
		isOutcome(t, "fun f(a int, b bool) "+x.kind+" { return "+x.e+"; }"+above, []int{4, 1}, x.want)
	}
}

func TestP15_2NumbersHave32Bits(t *testing.T) {
	edges := []int{math.MinInt32, math.MinInt32 + 1, -65536, -46341, -8, -7, -3, -2, -1, 0, 1, 2, 3, 7, 8, 46341, 65535, 65536, math.MaxInt32 - 1, math.MaxInt32}
	one := parsed(t, "fun f(a int) int { return -a; }")
	two := map[string]api.Program{}
	for _, mark := range []string{"+", "-", "*", "/", "%"} {
		two[mark] = parsed(t, "fun f(a int, b int) int { return a "+mark+" b; }")
	}
	asked := map[string]api.Program{}
	for _, mark := range []string{"<", "<=", ">", ">=", "==", "!="} {
		asked[mark] = parsed(t, "fun f(a int, b int) bool { return a "+mark+" b; }")
	}
	for _, a := range edges {
		is(t, one, []int{a}, big.NewInt(int64(-a)))
		for _, b := range edges {
			x, y := big.NewInt(int64(a)), big.NewInt(int64(b))
			is(t, two["+"], []int{a, b}, new(big.Int).Add(x, y))
			is(t, two["-"], []int{a, b}, new(big.Int).Sub(x, y))
			is(t, two["*"], []int{a, b}, new(big.Int).Mul(x, y))
			if b != 0 {
				is(t, two["/"], []int{a, b}, new(big.Int).Quo(x, y))
				is(t, two["%"], []int{a, b}, new(big.Int).Rem(x, y))
			}
			for mark, holds := range map[string]bool{"<": x.Cmp(y) < 0, "<=": x.Cmp(y) <= 0, ">": x.Cmp(y) > 0, ">=": x.Cmp(y) >= 0, "==": x.Cmp(y) == 0, "!=": x.Cmp(y) != 0} {
				is(t, asked[mark], []int{a, b}, big.NewInt(int64(number(holds))))
			}
		}
	}
	isOutcome(t, "fun f() int { return -2147483648 / -1; }", nil, gives(math.MinInt32, 5))
	isOutcome(t, "fun f() int { return -2147483648 % -1; }", nil, gives(0, 5))
	isOutcome(t, "fun f() int { return -7 / 2 * 10 + -7 % 2; }", nil, gives(-31, 12))
}

// is runs a function of one rule over names: what comes out, modulo 2^32.
func is(t *testing.T, p api.Program, args []int, exact *big.Int) {
	t.Helper()
	o := meaning.Run(p, 0, args, 9, 0)
	apart := new(big.Int).Sub(exact, big.NewInt(int64(o.Result)))
	if apart.Mod(apart, big.NewInt(1<<32)).Sign() != 0 || o.Result != int(int32(o.Result)) || o.Err != api.OK || o.Steps != 2+len(args) {
		t.Error(args, exact, o)
	}
}

func TestP15_2Statements(t *testing.T) {
	const rows = "fun f() { var s ints = new ints(3); "
	for _, x := range []struct {
		src  string
		want api.Outcome
	}{
		{"fun f() { }", gives(0, 0)}, {"fun f() { return; }", gives(0, 1)}, {"fun f() { return; tell 1; }", gives(0, 1)},
		{"fun f() { var a int = 7; tell a; a = a + 1; tell a; }", gives(0, 2+2+4+2, 7, 8)},
		{"fun f() { if true { tell 1; } tell 2; }", gives(0, 6, 1, 2)}, {"fun f() { if false { tell 1; } tell 2; }", gives(0, 4, 2)},
		{"fun f() { if true { tell 1; } else { tell 2; } }", gives(0, 4, 1)}, {"fun f() { if false { tell 1; } else { tell 2; tell 3; } }", gives(0, 6, 2, 3)},
		{"fun f() { if false { } else if true { tell 2; } else { tell 3; } }", gives(0, 6, 2)},
		{"fun f() int { if true { return 1; } return 2; }", gives(1, 4)}, {"fun f() int { if false { return 1; } return 2; }", gives(2, 4)},
		// each look is a rule, and its condition's
		{"fun f() { while false { tell 1; } }", gives(0, 2)}, {"fun f() { while true { break; } }", gives(0, 3)}, {"fun f() { while true { return; } tell 1; }", gives(0, 3)},
		{"fun f() { var a int = 2; while a > 0 { a = a - 1; } tell a; }", gives(0, 2+3*4+2*4+2, 0)},
		{"fun f() { var a int = 3; while a > 0 { a = a - 1; if a == 1 { continue; } tell a; } }", gives(0, 2+4*4+3*4+3*4+1+2*2, 2, 0)},
		{"fun f() { var a int = 3; while a > 0 { a = a - 1; if a == 1 { break; } tell a; } tell 9; }", gives(0, 2+2*4+2*4+2*4+1+2+2, 2, 9)},
		{"fun f() { var a int = 2; while a > 0 { a = a - 1; var b int = 2; while true { b = b - 1; if b < 0 { break; } tell 10 * a + b; } } }", gives(0, 2+3*4+2*(4+2+3*2+3*4+3*4+1+2*6), 11, 10, 1, 0)},
		{"fun f() { var a int = 2; while a > 0 { a = a - 1; while true { if true { if true { break; } } } continue; tell 7; } tell 8; }", gives(0, 2+3*4+2*(4+2+2+2+1+1)+2, 8)},
		{"fun f() int { var a int = 5; while true { while true { a = a - 1; if a == 2 { return a; } } } fail 1; }", gives(2, 2+2+3*(2+4+4)+2)},
		{"fun f() { tell 7; fail 2; tell 8; }", traps(18, 3, 7)}, {"fun f() { fail 0; }", traps(16, 1)}, {"fun f() { fail 200; }", traps(216, 1)},
		{"fun f() { say(3); nothing(); say(4); }", gives(0, 7+2+7, 3, 4)}, {"fun f() { say(5); }", gives(0, 7, 5)}, {"fun f() int { say(5); return 6; }", gives(6, 9, 5)},
		// a name: the right side alone; a field: the object, then the right side, then the trap
		{"fun f() { var o p = new p; o.x = 7; tell o.x; o.o = o; tell (o.o as p).x; }", with(4, gives(0, 2+3+3+3+5, 7, 7))},
		{"fun f() { rec(1).x = say(2); }", with(4, gives(0, 1+6+6, 1, 2))}, {"fun f() { nil(1).x = say(2); }", traps(api.TrapNull, 13, 1, 2)}, {"fun f() { nil(1).x = 1 / 0; }", traps(api.TrapDivide, 10, 1)},
		{"fun f() { nil(1).o = new p; }", with(4, traps(api.TrapNull, 8, 1))},
		{"fun f() { row(1)[say(2)] = say(0); }", with(4, gives(0, 1+7+6+6, 1, 2, 0))}, {"fun f() { row(1)[say(3)] = say(0); }", with(4, traps(api.TrapIndex, 20, 1, 3, 0))},
		{"fun f() { none(1)[say(3)] = say(0); }", traps(api.TrapNull, 19, 1, 3, 0)}, {"fun f() { none(1)[0] = 1 / 0; }", traps(api.TrapDivide, 11, 1)},
		{rows + "s[0] = 1; s[2] = 3; tell s[0]; tell s[1]; tell s[2]; }", with(4, gives(0, 3+4+4+4+4+4, 1, 0, 3))},
		{rows + "s[3] = 1; }", with(4, traps(api.TrapIndex, 7))}, {rows + "s[-1] = 1; }", with(4, traps(api.TrapIndex, 8))}, {rows + "s = null; s[-1] = 1; }", with(4, traps(api.TrapNull, 10))},
	} {
		isOutcome(t, x.src+above, nil, x.want)
	}
}

func TestP15_2Calls(t *testing.T) {
	for _, x := range []struct {
		src  string
		args []int
		want api.Outcome
	}{
		{"fun f(n int) int { if n < 2 { return n; } return f(n - 1) + f(n - 2); }", []int{4}, gives(3, 9*4+5*2+4*(1+1+1+3+1+3))}, // nine calls, five of which add nothing
		{"fun f(a int, b int) int { tell a; tell b; return g(b, a); } fun g(a int, b int) int { return a * 10 + b; }", []int{3, 4}, gives(43, 4+4+1+5, 3, 4)},
		{"fun f(a int) int { a = a + 1; tell g(a); return a; } fun g(a int) int { a = a * 2; return a; }", []int{4}, gives(5, 4+3+4+2+2, 10)},
		{"fun f() int { var a int = 1; g(); return a; } fun g() { var b int = 7; var c int = 8; }", nil, gives(1, 2+2+4+2)},
		{"fun f() { g(); } fun g() int { return 5; }", nil, gives(0, 4)}, // what was given to it is not its own
		{"fun f() { if true { g(); } return; } fun g() int { return 5; }", nil, gives(0, 7)},
		{"fun f() { while true { g(); break; } } fun g() int { return 5; }", nil, gives(0, 7)},
		{"fun f() int { return g() + h(); } fun g() int { return 5; } fun h() int { g(); return g() * 2; }", nil, gives(15, 2+3+1+4+6)},
		{"fun f() any { g(); return g(); } record p { } fun g() any { return new p; }", nil, with(2, gives(2, 4+4))},
		{"fun f() bool { return g(true, false); } fun g(a bool, b bool) bool { return a != b; }", nil, gives(1, 8)},
		{"fun f() int { return g(1, 2, 3, 4, 5, 6, 7, 8); } fun g(a int, b int, c int, d int, e int, i int, j int, h int) int { return h - a * b; }", nil, gives(6, 2+8+1+5)},
		{"fun f() { while true { var a int = 0; tell a; a = 5; if g(a) { break; } } } fun g(n int) bool { return n == 5; }", nil, gives(0, 2+2+2+2+1+2+4+1, 0)},
		// a variable has its value anew at each of its statements; a call's are its own
		{"fun f() { var i int = 0; while i < 2 { var a int = 7; tell a; a = a + i; i = i + 1; tell a; } }", nil, gives(0, 2+3*4+2*(2+2+4+4+2), 7, 7, 7, 8)},
		{"fun f(n int) { var a int = n; if n > 0 { f(n - 1); } tell a; }", []int{2}, gives(0, 3*(2+4+2)+2*5, 0, 1, 2)},
	} {
		isOutcome(t, x.src, x.args, x.want)
	}
}

func TestP15_2Depth(t *testing.T) {
	const down = "fun f(n int) int { if n > 1 { return f(n - 1) + 1; } return 1; }"
	for n := 60; n < 70; n++ {
		o := run(t, down, 9999, 0, n)
		if n <= api.MaxDepth && (o.Err != api.OK || o.Result != n) || n > api.MaxDepth && (o.Err != api.ErrTrap || o.Trap != api.TrapDepth || o.Result != 0) {
			t.Error(n, o)
		}
	}
	isOutcome(t, "fun h() int { return h(); }", nil, traps(api.TrapDepth, 128))
	isOutcome(t, "fun f() { g(); } fun g() { f(); }", nil, traps(api.TrapDepth, 128))
	isOutcome(t, "fun f(n int) { tell n; f(n + 1); }", []int{0}, traps(api.TrapDepth, 64*7, seq(64)...))
	// The arguments are evaluated first: each tells, the one of the call that can't be too; and their traps come first.
	isOutcome(t, "fun f(n int) { f(say(n + 1)); }"+above, []int{0}, traps(api.TrapDepth, 63*(2+1+3+4)+6, seq(64)[1:]...))
	o := run(t, "fun f(n int) { f(n + 1 + 0 / (63 - n)); }", 9999, 0, 0)
	if o.Trap != api.TrapDivide {
		t.Error(o)
	}
	// Calls that have ended are none any more.
	o = run(t, "fun f() { var i int = 0; while i < 1000 { i = i + one(); g(60); } tell i; } fun one() int { return 1; } fun g(n int) { if n > 0 { g(n - 1); } }", api.MaxFuel, 0)
	if o.Err != api.OK || !slices.Equal(o.Told, []int{1000}) {
		t.Error(o)
	}
}

// seq is 0, 1, 2 ..
func seq(n int) []int {
	var l []int
	for i := range n {
		l = append(l, i)
	}
	return l
}

func TestP15_2Told(t *testing.T) {
	const count = "fun f(n int) { var i int = 0; while i < n { tell i; i = i + 1; } }"
	for _, n := range []int{0, 1, 1023, 1024} {
		if o := run(t, count, api.MaxFuel, 0, n); o.Err != api.OK || !slices.Equal(o.Told, seq(n)) {
			t.Error(n, o)
		}
	}
	o := run(t, count, api.MaxFuel, 0, 1025)
	if o.Err != api.ErrTrap || o.Trap != api.TrapTold || !slices.Equal(o.Told, seq(1024)) || o.Steps != 2+1025*4+1024*6+2 {
		t.Error(o.Err, o.Trap, len(o.Told), o.Steps)
	}
	o = run(t, "fun f() { while true { tell 5; } }", api.MaxFuel, 0)
	if o.Trap != api.TrapTold || len(o.Told) != 1024 || o.Steps != 1025*4 {
		t.Error(o.Trap, len(o.Told), o.Steps)
	}
	// The expression comes first, with its own traps.
	o = run(t, "fun f() { var i int = 1024; while true { tell 1 / i; i = i - 1; } }", api.MaxFuel, 0)
	if o.Trap != api.TrapDivide || len(o.Told) != 1024 {
		t.Error(o.Trap, len(o.Told))
	}
}

func TestP15_2Room(t *testing.T) {
	const three = "record p { x int, y any } record q : p { z ints } fun f() { new0(); var a any = new q; a = new ints(2); a = null; a = new p; } fun new0() any { return new p; }"
	p := parsed(t, three) // 3, 4, 3 and 3 cells
	for _, x := range []struct {
		room, cells, steps int
		trap               int
	}{
		{13, 13, 4 + 2 + 3 + 2 + 2, 0}, {14, 13, 13, 0}, {4096, 13, 13, 0}, {12, 10, 13, api.TrapRoom}, {10, 10, 13, api.TrapRoom}, {9, 7, 9, api.TrapRoom},
		{7, 7, 9, api.TrapRoom}, {6, 3, 6, api.TrapRoom}, {3, 3, 6, api.TrapRoom}, {2, 0, 4, api.TrapRoom}, {1, 0, 4, api.TrapRoom}, {0, 0, 4, api.TrapRoom},
	} {
		want := api.Outcome{Trap: x.trap, Steps: x.steps, Cells: x.cells}
		if x.trap > 0 {
			want.Err = api.ErrTrap
		}
		if o := meaning.Run(p, 0, nil, 99, x.room); show(o) != show(want) {
			t.Error(x, o)
		}
	}
	// What was taken stays taken, though nobody names it any more.
	o := run(t, "record p { } fun f(n int) { while n > 0 { var a p = new p; n = n - 1; } }", api.MaxFuel, api.MaxRoom, 4096)
	if o.Err != api.OK || o.Cells != 4096 {
		t.Error(o)
	}
	o = run(t, "record p { } fun f(n int) { while n > 0 { var a p = new p; n = n - 1; } }", api.MaxFuel, api.MaxRoom, 4097)
	if o.Trap != api.TrapRoom || o.Cells != 4096 {
		t.Error(o)
	}
	for room := range 5 {
		if o := run(t, "fun f(n int) { var s ints = new ints(n); }", 9, room, room); o.Trap != api.TrapRoom || o.Cells != 0 {
			t.Error(room, o)
		}
		if o := run(t, "fun f(n int) { var s ints = new ints(n); }", 9, room+1, room); o.Err != api.OK || o.Cells != room+1 {
			t.Error(room, o)
		}
	}
}

func TestP15_2Fuel(t *testing.T) {
	const src = "record p { } fun f() int { tell 1; var a any = new p; tell 2; return 3; }"
	for fuel, want := range []api.Outcome{
		{}, {}, {Told: []int{1}}, {Told: []int{1}}, {Told: []int{1}, Cells: 1}, {Told: []int{1}, Cells: 1}, {Told: []int{1, 2}, Cells: 1}, {Told: []int{1, 2}, Cells: 1}, {Told: []int{1, 2}, Cells: 1, Result: 3},
	} {
		want.Steps = fuel
		if fuel < 8 {
			want.Err = api.ErrFuel
		}
		if o := run(t, src, fuel, 9); show(o) != show(want) {
			t.Error(fuel, o)
		}
	}
	for _, fuel := range []int{0, 1, 2, 1000, api.MaxFuel - 1, api.MaxFuel} {
		if o := run(t, "fun f() { while true { } }", fuel, 0); show(o) != show(api.Outcome{Err: api.ErrFuel, Steps: fuel}) {
			t.Error(fuel, o)
		}
	}
	// A trap comes with the rule that it is of, if that has fuel.
	if o := run(t, "fun f() { fail 1; }", 0, 0); o.Err != api.ErrFuel {
		t.Error(o)
	}
	if o := run(t, "fun f() int { return 1 / 0; }", 3, 0); o.Err != api.ErrFuel {
		t.Error(o)
	}
}

func TestP15_2ObjectsAreNamedTogether(t *testing.T) {
	for _, x := range []struct {
		src   string
		cells int
		told  []int
	}{
		{"var a q = new q; var b p = a; b.x = 5; tell a.x; a.n = a; a.n.n.x = 6; tell b.x; change(a); tell b.x; tell number(b == a.n);", 6, []int{5, 6, 8, 1}},
		{"var a q = new q; var b p = a; a.o = new r; tell number(a.o == b.o); tell number(a.o == b); a.y = true; tell number((b as q).y);", 7, []int{1, 0, 1}},
		{"var a p = new p; var b p = a; b.s = new ints(1); a.s[0] = 7; tell b.s[0]; b.s = new ints(2); tell a.s[0]; tell len(a.s);", 9, []int{7, 0, 2}},
		{"var a q = new q; a.x = 1; a.y = true; a.n = a; a.o = a; tell a.x; tell number(a.s == null); tell number(a.y) + number(a.n == a) + number(a.o == a);", 6, []int{1, 1, 3}},
		{"var a q = new q; var b q = new q; a.x = 3; b.x = 4; a.n = b; tell a.x; tell a.n.x; tell number(b.n == null);", 12, []int{3, 4, 1}},
	} {
		const more = " fun change(o p) { o.x = 8; o = null; } fun number(b bool) int { if b { return 1; } return 0; }"
		o := run(t, "fun f() { "+x.src+" }"+more+above, 999, 99)
		if o.Err != api.OK || o.Cells != x.cells || !slices.Equal(o.Told, x.told) {
			t.Errorf("%s: %+v", x.src, o)
		}
	}
}

func TestExamplesOfChapter15(t *testing.T) {
	const f = "fun f(n int) int { return n + 1; }"
	if o := run(t, f, 100, 0, 4); show(o) != show(api.Outcome{Result: 5, Steps: 4}) {
		t.Error(o)
	}
	if o := run(t, f, 3, 0, 4); show(o) != show(api.Outcome{Err: api.ErrFuel, Steps: 3}) {
		t.Error(o)
	}
	if o := run(t, "fun g() { tell 7; fail 2; }", 100, 0); show(o) != show(api.Outcome{Err: api.ErrTrap, Trap: 18, Steps: 3, Told: []int{7}}) {
		t.Error(o)
	}
	if o := run(t, "fun h() int { return h(); }", 1000, 0); show(o) != show(api.Outcome{Err: api.ErrTrap, Trap: api.TrapDepth, Steps: 128}) {
		t.Error(o)
	}
	// DOC.md's seventh and eighth.
	if o := run(t, "fun f() int { return 7 / 0; }", 9, 0); o.Err != api.ErrTrap || o.Trap != api.TrapDivide {
		t.Error(o)
	}
	const cast = "record p { } record q : p { } fun f() { var r any = new p; r = r as q; }"
	if o := run(t, cast, 9, 9); o.Err != api.ErrTrap || o.Trap != api.TrapCast {
		t.Error(o)
	}
}
