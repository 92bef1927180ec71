package gen_test

import (
	"strconv"
	"strings"

	"proviso/api"
	"proviso/check"
	"proviso/code"
)

// Chapter 13's tables, as they stand: a, b are the operands, e the statement's expression, a word with a colon is a place; what has a ? behind it may be left out.

func exprWords(e api.Expr) string {
	held := "is"
	if len(e.Kids) > 0 && (e.Kids[0].Type == api.TInt || e.Kids[0].Type == api.TBool) {
		held = "same"
	}
	return map[int]string{
		api.ExInt: "int Num", api.ExBool: "bool Num", api.ExNull: "null",
		api.ExName: "load Ref",
		api.ExNeg:  "a, neg", api.ExNot: "a, not",
		api.ExMul: "a, b, mul", api.ExDiv: "a, b, div", api.ExRem: "a, b, rem", api.ExAdd: "a, b, add", api.ExSub: "a, b, sub",
		api.ExLess: "a, b, less", api.ExMore: "a, b, swap, less",
		api.ExMost: "a, b, swap, less, not", api.ExLeast: "a, b, less, not",
		api.ExSame: "a, b, " + held, api.ExUnlike: "a, b, " + held + ", not",
		api.ExAnd:  "a, unless F, b, jump E, F:, bool 0, E:",
		api.ExOr:   "a, unless F, bool 1, jump E, F:, b, E:",
		api.ExCall: "arguments, call Ref",
		api.ExNew:  "new Ref", api.ExMake: "a, make",
		api.ExField: "a, get Class Ref",
		api.ExAt:    "a, b, at", api.ExLen: "a, len",
		api.ExAs: "a, cast Ref", api.ExIs: "a, test Ref",
	}[e.Op]
}

func stmtWords(s api.Stmt) string {
	switch {
	case s.Op == api.StSet:
		return map[int]string{api.ExName: "e, store Ref", api.ExField: "a, e, put Class Ref", api.ExAt: "a, b, e, set"}[s.Exprs[0].Op]
	case s.Op == api.StIf && len(s.Else) > 0:
		return "e, unless L, body, jump M ?, L:, else, M:"
	case s.Op == api.StReturn && len(s.Exprs) == 0:
		return "return"
	}
	return map[int]string{
		api.StVar:   "e, store Ref",
		api.StIf:    "e, unless L, body, L:",
		api.StWhile: "H:, e, unless L, body, jump H ?, L:",
		api.StBreak: "jump L", api.StContinue: "jump H",
		api.StReturn: "e, return",
		api.StTell:   "e, tell", api.StFail: "trap Num",
		api.StCall: "e, pop ?",
	}[s.Op]
}

// teller writes down what the tables say, with names for places.
type teller struct {
	lines  []string // instructions with their operands, and places
	places int      // that were named
	loops  []string // the numbers that the places of the loops around have
}

func (o *teller) line(words ...string) { o.lines = append(o.lines, strings.Join(words, " ")) }

// fresh is a number for the places of one row of a table.
func (o *teller) fresh() string {
	o.places++
	return strconv.Itoa(o.places)
}

func (o *teller) expr(e api.Expr) {
	own := o.fresh()
	for _, w := range strings.Split(exprWords(e), ", ") {
		switch w {
		case "a":
			o.expr(e.Kids[0])
		case "b":
			o.expr(e.Kids[1])
		case "arguments":
			for _, k := range e.Kids {
				o.expr(k)
			}
		default:
			o.own(w, own, e.Num, e.Ref, e.Class)
		}
	}
}

// own is an instruction, or a place, of a row that has these numbers.
func (o *teller) own(w, own string, num, ref, class int) {
	if name, is := strings.CutSuffix(w, ":"); is {
		o.line(name + own + ":")
		return
	}
	words := strings.Fields(w)
	for i, x := range words[1:] {
		switch x {
		case "Num":
			words[i+1] = strconv.Itoa(num)
		case "Ref":
			words[i+1] = strconv.Itoa(ref)
		case "Class":
			words[i+1] = strconv.Itoa(class)
		case "F", "E", "L", "M", "H":
			words[i+1] = x + own
		}
	}
	o.line(words...)
}

func (o *teller) block(l []api.Stmt) {
	for _, s := range l {
		o.stmt(s)
	}
}

func (o *teller) stmt(s api.Stmt) {
	own, left := o.fresh(), api.Expr{Ref: s.Ref}
	if s.Op == api.StSet {
		left = s.Exprs[0]
	}
	switch s.Op {
	case api.StWhile:
		o.loops = append(o.loops, own)
		defer func() { o.loops = o.loops[:len(o.loops)-1] }()
	case api.StBreak, api.StContinue:
		own = o.loops[len(o.loops)-1]
	}
	for _, w := range strings.Split(stmtWords(s), ", ") {
		may, is := strings.CutSuffix(w, " ?")
		switch {
		case is && (s.Op == api.StCall && s.Exprs[0].Type == api.TTop || s.Op != api.StCall && ends(s.Body)):
		case w == "a":
			o.expr(left.Kids[0])
		case w == "b":
			o.expr(left.Kids[1])
		case w == "e":
			o.expr(s.Exprs[len(s.Exprs)-1])
		case w == "body":
			o.block(s.Body)
		case w == "else":
			o.block(s.Else)
		default:
			o.own(may, own, s.Num, left.Ref, left.Class)
		}
	}
}

// ends is 12.2's.
func ends(l []api.Stmt) bool {
	if len(l) == 0 {
		return false
	}
	s := l[len(l)-1]
	return s.Op == api.StReturn || s.Op == api.StFail || s.Op == api.StIf && ends(s.Body) && ends(s.Else)
}

// told is a function's code in lines, as assembled takes them.
func told(f api.Fun) []string {
	o := &teller{}
	o.block(f.Body)
	if !ends(f.Body) {
		o.line("return")
	}
	return o.lines
}

// assembled is the bytes of lines, and how many these are; none, if they are more than code may have.
func assembled(lines []string) ([]byte, int) {
	places, at := map[string]int{}, 0
	for _, line := range lines {
		if name, is := strings.CutSuffix(line, ":"); is {
			places[name] = at
			continue
		}
		op, _ := code.Op(strings.Fields(line)[0])
		at += code.Size(op)
	}
	var b []byte
	for _, line := range lines {
		if at > api.MaxCode || strings.HasSuffix(line, ":") {
			continue
		}
		words := append(strings.Fields(line), "0", "0")
		op, is := code.Op(words[0])
		x, why := code.Encode(api.Instr{Op: op, A: number(places, words[1]), B: number(places, words[2])})
		if !is || why != api.OK {
			panic(line)
		}
		b = append(b, x...)
	}
	return b, at
}

// number is what an operand says, or where its place is.
func number(places map[string]int, s string) int {
	if n, err := strconv.Atoi(s); err == nil {
		return n
	}
	at, is := places[s]
	if !is {
		panic(s)
	}
	return at
}

// high is how many entries lie on a stack at most while an expression comes to its value, those ahead of it not counted: told of the tree, not of its code.
func high(e api.Expr) int {
	most := 0
	for i, k := range e.Kids {
		if e.Op == api.ExAnd || e.Op == api.ExOr {
			i = 0 // the left one is gone when the right one begins
		}
		most = max(most, i+high(k))
	}
	if e.Type != api.TTop {
		most = max(most, 1)
	}
	return most
}

func highest(l []api.Stmt) int {
	most := 0
	for _, s := range l {
		switch s.Op {
		case api.StSet:
			for i, k := range s.Exprs[0].Kids {
				most = max(most, i+high(k))
			}
			most = max(most, len(s.Exprs[0].Kids)+high(s.Exprs[1]))
		default:
			for _, e := range s.Exprs {
				most = max(most, high(e))
			}
		}
		most = max(most, highest(s.Body), highest(s.Else))
	}
	return most
}

// meant is P13.1 of a program that check took.
func meant(name string, p api.Program) (api.Module, api.Fault) {
	m := api.Module{Name: name, Classes: check.Classes(p)}
	for _, f := range p.Funs {
		b, n := assembled(told(f))
		if n > 4096 || f.Locals+highest(f.Body) > 24 {
			return api.Module{}, api.Fault{At: f.At, Why: api.ErrSize}
		}
		x := api.Func{Name: f.Name, Sig: api.Sig{Result: f.Result}, Locals: f.Locals, Code: b}
		for _, y := range f.Params {
			x.Sig.Params = append(x.Sig.Params, y.Type)
		}
		m.Funcs = append(m.Funcs, x)
	}
	return m, api.Fault{}
}
