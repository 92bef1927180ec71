package meaning_test

import (
	"fmt"
	"slices"
	"strings"
	"testing"

	"proviso/api"
	"proviso/check"
	"proviso/meaning"
	"proviso/parse"
	"proviso/samples"
)

// ending is how a run ends; traps of a program's own are one.
type ending struct {
	err  api.Errno
	trap int
}

func endingOf(o api.Outcome) ending { return ending{o.Err, min(o.Trap, api.TrapOwn)} }

func TestP15_2HeldAgainstTheWords(t *testing.T) {
	came := map[ending]int{}
	var exprs [api.NumEx]int
	var stmts [api.NumSt]int
	tries(t, 1, 8000, func(_ *dice, x try) {
		w := x.told()
		if o := x.run(); show(o) != show(w.o) {
			t.Fatalf("%s\n%d %v %d %d\n%+v\nwanted\n%+v", x.src, x.entry, x.args, x.fuel, x.room, o, w.o)
		}
		for op, n := range w.exprs {
			exprs[op] += n
		}
		for op, n := range w.stmts {
			stmts[op] += n
		}
		came[endingOf(w.o)]++
	})
	for _, e := range []ending{{err: api.OK}, {err: api.ErrArgs}, {err: api.ErrFuel}} {
		if came[e] < 50 {
			t.Error(e, "hardly comes", came)
		}
	}
	for _, trap := range []int{api.TrapDivide, api.TrapNull, api.TrapIndex, api.TrapSize, api.TrapCast, api.TrapRoom, api.TrapDepth, api.TrapOwn} {
		if came[ending{api.ErrTrap, trap}] < 50 {
			t.Error(trap, "hardly comes", came)
		}
	}
	if slices.Min(exprs[1:]) < 1000 || slices.Min(stmts[1:]) < 30 {
		t.Error("hardly used", exprs, stmts)
	}
}

func TestP15_3MoreFuel(t *testing.T) {
	came, begun := 0, 0
	tries(t, 2, 1200, func(d *dice, x try) {
		if x.room += d.Below(100); d.Below(9) == 0 {
			x.fuel = d.Below(api.MaxFuel)
		}
		o := x.run()
		for _, fuel := range []int{o.Steps, o.Steps + 1, x.fuel, x.fuel + 1, x.fuel + d.Below(5000), api.MaxFuel} {
			y := x
			if y.fuel = fuel; o.Err != api.ErrFuel && fuel <= api.MaxFuel && show(y.run()) != show(o) && fuel >= o.Steps {
				t.Fatalf("%s\n%d %v, fuel %d and %d\n%+v\n%+v", x.src, x.entry, x.args, x.fuel, fuel, o, y.run())
			}
		}
		came++
		for fuel := 0; fuel < o.Steps; fuel += 1 + d.Below(1+o.Steps/60) {
			y := x
			y.fuel = fuel
			less := y.run()
			if less.Err != api.ErrFuel || less.Steps != fuel || less.Trap != 0 || less.Result != 0 || less.Cells > o.Cells || !isBeginning(less.Told, o.Told) {
				t.Fatalf("%s\n%d %v, fuel %d and %d\n%+v\n%+v", x.src, x.entry, x.args, x.fuel, fuel, o, less)
			}
			if len(less.Told) > 0 {
				begun++
			}
		}
	})
	if came < 500 || begun < 500 {
		t.Error("hardly comes", came, begun)
	}
}

func isBeginning(a, b []int) bool { return len(a) <= len(b) && slices.Equal(a, b[:len(a)]) }

func TestP15_4MoreRoom(t *testing.T) {
	enough, less := 0, 0
	tries(t, 3, 5000, func(d *dice, x try) {
		o := x.run()
		if o.Err == api.ErrTrap && o.Trap == api.TrapRoom || o.Err == api.ErrArgs {
			return
		}
		for _, room := range []int{o.Cells, o.Cells + 1, x.room + 1, x.room + d.Below(200), api.MaxRoom} {
			y := x
			if y.room = room; show(y.run()) != show(o) {
				t.Fatalf("%s\n%d %v, room %d and %d\n%+v\n%+v", x.src, x.entry, x.args, x.room, room, o, y.run())
			}
		}
		enough++
		if o.Cells > 0 { // the last object has no room any more
			y := x
			y.room = o.Cells - 1
			if p := y.run(); p.Err != api.ErrTrap || p.Trap != api.TrapRoom || p.Cells > y.room || p.Steps > o.Steps || !isBeginning(p.Told, o.Told) {
				t.Fatalf("%s\n%d %v, room %d\n%+v\n%+v", x.src, x.entry, x.args, y.room, o, p)
			}
			less++
		}
	})
	if enough < 1000 || less < 500 {
		t.Error("hardly comes", enough, less)
	}
}

func TestP15_5ProgramsThatAreSame(t *testing.T) {
	tries(t, 4, 2000, func(d *dice, x try) {
		o := x.run()
		for i, p := range samples.Alike(d, x.p) {
			y := x
			if y.p = p; !parse.Same(x.p, p) || show(y.run()) != show(o) {
				t.Fatalf("%d %s\n%+v\n%+v", i, x.src, o, y.run())
			}
		}
		blanks := strings.NewReplacer(" ", "\t// a remark\n ", "(", "( ", ";", " ;").Replace(x.src)
		y := x
		if y.p = parsed(t, blanks); show(y.run()) != show(o) {
			t.Fatalf("%s\n%+v\n%+v", blanks, o, y.run())
		}
	})
}

func TestTheSameAgain(t *testing.T) {
	var last try
	tries(t, 5, 500, func(_ *dice, x try) {
		o := x.run()
		last.run()
		if show(x.run()) != show(o) {
			t.Fatal(x.src, o)
		}
		last = x
	})
}

func TestNothingHandedInIsChanged(t *testing.T) {
	tries(t, 6, 1000, func(_ *dice, x try) {
		q, _ := check.Check(x.p)
		x.args = append(slices.Clone(x.args), 77)[:len(x.args)]
		before, after, args := fmt.Sprintf("%+v", x.p), fmt.Sprintf("%+v", q), slices.Clone(x.args)
		x.run()
		meaning.Run(q, x.entry, x.args, x.fuel, x.room)
		if fmt.Sprintf("%+v", x.p) != before || fmt.Sprintf("%+v", q) != after || !slices.Equal(x.args, args) || x.args[:len(args)+1][len(args)] != 77 {
			t.Fatal(before)
		}
	})
	const src = "fun f(a int, b int) int { a = 9; b = g(a, b); a = 8; return a; } fun g(a int, b int) int { a = 7; b = 7; return a; }"
	args := []int{1, 2}
	if o := run(t, src, 99, 0, args...); o.Result != 8 || !slices.Equal(args, []int{1, 2}) {
		t.Error(o, args)
	}
}

func TestAnswersAreNewMemory(t *testing.T) {
	p := parsed(t, "fun f(a int) { tell a; tell 2; tell 3; }")
	args := []int{1}
	one, two := meaning.Run(p, 0, args, 99, 0), meaning.Run(p, 0, args, 99, 0)
	samples.Overwrite(one.Told, 77)
	if !slices.Equal(two.Told, []int{1, 2, 3}) || args[0] != 1 || !slices.Equal(meaning.Run(p, 0, args, 99, 0).Told, []int{1, 2, 3}) {
		t.Error(two, args)
	}
	args[0] = 5
	if two.Told[0] != 1 {
		t.Error(two)
	}
}

func TestRoomBehindTheEndIsNotRead(t *testing.T) {
	const src = "record p { x int } fun f(a int) int { if true { tell a; } return g(a); } fun g(a int) int { return a; }"
	p := parsed(t, src)
	want := show(meaning.Run(p, 0, []int{4}, 99, 9))
	p.Records = append(p.Records, api.Record{Name: "p"})[:1]
	p.Funs = append(p.Funs, api.Fun{Name: "f"})[:2]
	f := &p.Funs[0]
	f.Params = append(f.Params, api.Param{Name: "a"})[:1]
	f.Body = append([]api.Stmt{f.Body[0], f.Body[1]}, api.Stmt{Op: api.StBreak})[:2]
	f.Body[0].Else = []api.Stmt{{Op: api.StBreak}}[:0]
	if o := meaning.Run(p, 0, []int{4, 5}[:1], 99, 9); show(o) != want {
		t.Error(o)
	}
	if o := meaning.Run(p, 2, nil, 99, 9); o.Err != api.ErrFunc {
		t.Error(o)
	}
}

func TestAllEndsOfAllArguments(t *testing.T) {
	came := 0
	tries(t, 7, 4000, func(d *dice, x try) {
		if d.Below(2) == 0 {
			x.p, _ = check.Check(x.p)
		}
		for range 1 + d.Below(3) {
			samples.Spoil(d, &x.p)
		}
		o := x.run()
		if _, err := check.Check(x.p); (err != nil) != (o.Err == api.ErrArg) {
			t.Fatalf("%+v %v %v", x.p, err, o)
		}
		if o.Err != api.ErrArg {
			came++
		}
	})
	if came < 200 {
		t.Error("hardly comes", came)
	}
	p := parsed(t, "fun f(a int, b bool) { while b { } }")
	for _, n := range samples.Numbers() {
		for _, m := range samples.Numbers() {
			meaning.Run(p, n, []int{m, n}, m, n)
			meaning.Run(p, 0, []int{n, m}, 10, 10)
			meaning.Run(api.Program{}, n, []int{m}, 1, 1)
			meaning.Admits(api.Sig{Params: []api.Type{api.TInt, api.TBool}}, []int{n, m})
		}
	}
}

// of is a program with one function that gives a number.
func of(l ...api.Stmt) api.Program {
	return api.Program{Funs: []api.Fun{{Name: "f", Of: "int", Body: l}}}
}

func back(e api.Expr) api.Stmt { return api.Stmt{Op: api.StReturn, Exprs: []api.Expr{e}} }

func TestDeepTrees(t *testing.T) {
	row := "fun f(n int) int { if n > 1 { return f(n - 1)" + strings.Repeat(" + 1", 8000) + "; } return 1; }"
	if o := run(t, row, api.MaxFuel, 0, 64); o.Err != api.OK || o.Result != 63*8000+1 {
		t.Error(o)
	}
	if o := run(t, row, api.MaxFuel, 0, 65); o.Err != api.ErrTrap || o.Trap != api.TrapDepth {
		t.Error(o)
	}
	if o := run(t, row, 500000, 0, 64); o.Err != api.ErrFuel || o.Steps != 500000 {
		t.Error(o)
	}
	deep := api.Expr{Op: api.ExCall, Name: "f"} // no text has such a tree
	for range 16000 {
		deep = api.Expr{Op: api.ExNeg, Kids: []api.Expr{deep}}
	}
	if o := meaning.Run(of(back(deep)), 0, nil, api.MaxFuel, 0); o.Err != api.ErrTrap || o.Trap != api.TrapDepth || o.Steps != 64*16002 {
		t.Error(o)
	}
	nested := back(api.Expr{Op: api.ExCall, Name: "f"})
	for range 5000 {
		yes := []api.Expr{{Op: api.ExBool, Num: 1}}
		nested = api.Stmt{Op: api.StIf, Exprs: yes, Body: []api.Stmt{nested}}
	}
	last := api.Stmt{Op: api.StFail}
	if o := meaning.Run(of(nested, last), 0, nil, api.MaxFuel, 0); o.Err != api.ErrTrap || o.Trap != api.TrapDepth || o.Steps != 64*10002 {
		t.Error(o)
	}
	round := []api.Expr{{Op: api.ExNeg}}
	round[0].Kids = round
	if o := meaning.Run(of(back(round[0])), 0, nil, 9, 0); show(o) != show(api.Outcome{Err: api.ErrArg}) {
		t.Error(o)
	}
}
