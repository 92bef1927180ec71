package gen_test

import (
	"fmt"
	"strings"
	"testing"

	"proviso/api"
	"proviso/check"
	"proviso/code"
	"proviso/flow"
	"proviso/gen"
	"proviso/infer"
	"proviso/onepass"
	"proviso/parse"
	"proviso/samples"
)

// modules are those of texts as the dice fall, and of some that lie at the edges.
func modules(t *testing.T, seed dice, n int) []api.Module {
	var l []api.Module
	for i := range n {
		l = append(l, good(t, samples.Source(&seed, 1+i%14)))
	}
	for _, src := range []string{
		"",
		"record p { }",
		"fun f() { }",
		"fun f() { while true { } }",
		"fun f() { while true { fail 1; } }",
		"fun f() int { if true { return 1; } else { if false { fail 1; } else { return 2; } } }",
		"fun f() { while true { if true { break; } continue; tell 1; } return; while false { } }",
		"fun f() { while true { while true { break; } break; } while false { continue; } }",
		"fun f() { return; var a int = 1; while a > 0 { a = a - 1; } tell a; }", // dead, and not known there
		"fun f() { while true { break; var a int = 1; tell a; } }",
		"record p { n p, s ints } fun f(a p) { var b any = a; while a != null { a = a.n; b = a.s; if b is p { b = null; } else { b = new ints(1); } } b = b as p; }",
		"record p { x int } record q : p { } record r : p { } fun f(b bool) p { var a p = null; if b { a = new q; } else { a = new r; } tell a.x; a.x = 1; return a; }",
		"fun f() { var s ints = null; tell s[0]; tell len(s); s[0] = 1; var a any = null; while true { a = s; a = null; } }",
		"fun f(b bool) int { if b { var a int = 1; } else { var c bool = true; } while b { var d any = null; } return 1; }",
		"fun f() any { return g(null, null); } fun g(a ints, b any) ints { f(); return a; }",
		strings.Replace(called+locals(16, "eight(1, 2, 3, 4, 5, 6, 7, one(b && b));"), "@", "", 1),
		"fun f(n int) { " + strings.Repeat("tell n; ", 1365) + "}",
		"fun f(b bool) { " + strings.Repeat("if b { ", 60) + strings.Repeat("} else { return; } ", 60) + "}",
	} {
		l = append(l, good(t, src))
	}
	return l
}

func TestP13_3Taken(t *testing.T) {
	for _, m := range modules(t, 4, 2000) {
		for fn, f := range m.Funcs {
			e, _ := infer.Env(m, fn)
			if _, at, why := infer.Infer(e, f.Locals, f.Code); why != api.OK {
				t.Fatal(f.Name, at, why, m)
			}
		}
		shipped, fn, at, why := infer.Module(m)
		if why != api.OK {
			t.Fatal(fn, at, why, m)
		}
		if fn, at, why := onepass.Module(shipped); why != api.OK && len(m.Funcs) > 0 {
			t.Fatal("P2 of the whole", fn, at, why, m)
		}
	}
}

func TestP13_4Whole(t *testing.T) {
	for _, m := range modules(t, 5, 3000) {
		for _, f := range m.Funcs {
			if at, why := flow.Check(f.Code); at != 0 || why != api.OK {
				t.Fatal(f.Name, at, why, m)
			}
			l, _, _ := flow.Scan(f.Code)
			if last := l[len(l)-1]; !code.Ends(last.Op) || len(f.Code) > api.MaxCode {
				t.Fatal(f)
			}
		}
	}
}

func TestP13_5OneWay(t *testing.T) {
	d := dice(6)
	for i := range 1500 {
		src := samples.Source(&d, 1+i%9)
		p := parsed(t, src)
		want, err := gen.Gen("m", p)
		if err != nil {
			t.Fatal(err)
		}
		for n, q := range samples.Alike(&d, p) {
			if m, err := gen.Gen("m", q); !parse.Same(p, q) || err != nil || show(m) != show(want) {
				t.Fatal(n, src, m, err)
			}
		}
		blanks := strings.NewReplacer(" ", "\t// a remark\n ", "(", "( ", ";", " ;").Replace(src)
		if m, err := gen.Compile("m", blanks); err != nil || show(m) != show(want) {
			t.Fatal(blanks, m, err)
		}
	}
	for _, x := range [][2]string{
		{"fun f() { if true { tell 1; } else { } }", "fun f() { if true { tell 1; } }"},
		{"fun f() { if true { } else { if false { tell 1; } } }", "fun f() { if true { } else if false { tell 1; } }"},
		{"fun f() { tell (1 + (2 * 3)); }", "fun f(){tell 1+2*3;}"},
		{"fun f() { } record p { }", "record p { } fun f() { }"},
	} {
		if show(good(t, x[0])) != show(good(t, x[1])) {
			t.Error(x)
		}
	}
}

func TestTheSameAgain(t *testing.T) {
	d := dice(7)
	for range 200 {
		src := samples.Source(&d, 8)
		m := good(t, src)
		good(t, samples.Source(&d, 8))
		if show(good(t, src)) != show(m) {
			t.Fatal(src)
		}
	}
}

func TestNothingHandedInIsChanged(t *testing.T) {
	d := dice(8)
	for i := range 500 {
		p := parsed(t, samples.Source(&d, 1+i%8))
		q, _ := check.Check(p)
		before, after := fmt.Sprintf("%+v", p), fmt.Sprintf("%+v", q)
		gen.Gen("m", p)
		gen.Gen("m", q)
		gen.Gen("1", q)
		if fmt.Sprintf("%+v", p) != before || fmt.Sprintf("%+v", q) != after {
			t.Fatal(before)
		}
	}
}

func TestAnswersAreNewMemory(t *testing.T) {
	d := dice(9)
	for range 300 {
		q, _ := check.Check(parsed(t, samples.Source(&d, 6)))
		before := fmt.Sprintf("%+v", q)
		m, _ := gen.Gen("m", q)
		n, _ := gen.Gen("m", q)
		want := show(n)
		// Each list is spoilt and then put right by another answer's: so what is still wrong has shared its memory.
		for i := range m.Classes {
			samples.Overwrite(m.Classes[i].Fields, api.Field{Name: "spoilt"})
			m.Classes[i].Fields = n.Classes[i].Fields
		}
		for i := range m.Funcs {
			samples.Overwrite(m.Funcs[i].Code, 77)
			samples.Overwrite(m.Funcs[i].Sig.Params, 77)
			m.Funcs[i].Code, m.Funcs[i].Sig.Params = n.Funcs[i].Code, n.Funcs[i].Sig.Params
			if show(m) != want {
				t.Fatal("shared within an answer", show(m), want)
			}
		}
		samples.Overwrite(m.Classes, api.Class{Name: "spoilt"})
		samples.Overwrite(m.Funcs, api.Func{Name: "spoilt"})
		if fmt.Sprintf("%+v", q) != before || show(n) != want {
			t.Fatal("shared", before)
		}
	}
}

func TestRoomBehindTheEndIsNeitherReadNorWritten(t *testing.T) {
	const src = "record p { x int } fun f(a int) int { if true { tell a; } return f(a); }"
	p := parsed(t, src)
	p.Records = append(p.Records, api.Record{Name: "p"})[:1]
	p.Records[0].Fields = append(p.Records[0].Fields, api.Param{Name: "x"})[:1]
	p.Funs = append(p.Funs, api.Fun{Name: "f"})[:1]
	f := &p.Funs[0]
	f.Params = append(f.Params, api.Param{Name: "a"})[:1]
	f.Body = append(f.Body, api.Stmt{Op: api.StBreak})[:2]
	f.Body[0].Else = []api.Stmt{{Op: api.StBreak}}[:0]
	e := &f.Body[1].Exprs[0]
	e.Kids = append(e.Kids, api.Expr{Op: api.ExName, Name: "gone"})[:1]
	if m, err := gen.Gen("m", p); err != nil || show(m) != show(good(t, src)) {
		t.Error(m, err)
	}
	if p.Records[:2][1].Name != "p" || p.Records[0].Fields[:2][1].Name != "x" || f.Params[:2][1].Name != "a" || f.Body[:3][2].Op != api.StBreak || f.Body[0].Else[:1][0].Op != api.StBreak || e.Kids[:2][1].Name != "gone" {
		t.Error("written")
	}
}

func TestAllEndsOfAllArguments(t *testing.T) {
	d, came := dice(10), 0
	for i := range 8000 {
		p := parsed(t, samples.Source(&d, 1+i%6))
		if i%2 == 0 {
			p, _ = check.Check(p)
		}
		for range 1 + d.Below(3) {
			samples.Spoil(&d, &p)
		}
		m, err := gen.Gen("m", p)
		if faultOf(t, m, err) == (api.Fault{}) {
			came++
		}
	}
	if came < 500 {
		t.Error("hardly comes", came)
	}
	for op := -2; op < 40; op++ {
		for n := range 4 {
			e := api.Expr{Op: op, Kids: make([]api.Expr, n)}
			gen.Gen("m", of(api.Stmt{Op: api.StTell, Exprs: []api.Expr{e}}))
			gen.Gen("m", of(api.Stmt{Op: op, Exprs: make([]api.Expr, n)}))
		}
	}
	for _, src := range []string{"\x00", "\xff\xfe", strings.Repeat("{", 1<<16), strings.Repeat("fun ", 1<<14)} {
		m, err := gen.Compile("m", src)
		if faultOf(t, m, err) == (api.Fault{}) {
			t.Error(src)
		}
	}
}

// of is a program with one function.
func of(l ...api.Stmt) api.Program {
	return api.Program{Funs: []api.Fun{{At: 9, Name: "f", Body: l}}}
}

func TestTreesThatNoTextHas(t *testing.T) {
	deep := api.Expr{Op: api.ExInt}
	for range 10000 {
		deep = api.Expr{Op: api.ExNeg, Kids: []api.Expr{deep}}
	}
	m, err := gen.Gen("m", of(api.Stmt{Op: api.StTell, Exprs: []api.Expr{deep}}))
	if f := faultOf(t, m, err); f != (api.Fault{At: 9, Why: api.ErrSize}) {
		t.Error(f)
	}
	yes := []api.Expr{{Op: api.ExBool, Num: 1}}
	wide := []api.Stmt{{Op: api.StReturn}}
	for range 60 {
		wide = []api.Stmt{{Op: api.StIf, Exprs: yes, Body: wide, Else: wide}}
	}
	round := []api.Stmt{{Op: api.StWhile, Exprs: yes}}
	round[0].Body = round
	again := []api.Expr{{Op: api.ExNeg}}
	again[0].Kids = again
	for _, p := range []api.Program{of(wide...), of(round...), of(api.Stmt{Op: api.StTell, Exprs: again})} {
		m, err := gen.Gen("m", p)
		if faultOf(t, m, err) == (api.Fault{}) {
			t.Error("a tree without end")
		}
	}
}
