package parse_test

import (
	"strconv"
	"strings"

	"proviso/api"
)

// writer writes trees as the dice fall, with blanks, remarks and parentheses that need not be, and puts places into them.
type writer struct {
	d       *dice
	text    strings.Builder
	needful bool // nothing is written that need not be
	deep    int  // how many parts are begun and not ended
	tooDeep int  // where the first one stands that makes it more than 64; -1
}

func newWriter(d *dice) *writer { return &writer{d: d, tooDeep: -1} }

func isWordByte(c byte) bool {
	return c == '_' || c >= '0' && c <= '9' || c >= 'a' && c <= 'z' || c >= 'A' && c <= 'Z'
}

// put writes a token behind some blanks, and tells its place.
func (w *writer) put(s string) int {
	between := pick(w.d, []string{"", "", " ", "  ", "\n", "\t\r", " // a ) remark\n", "//\n"})
	if w.needful {
		between = " "
	}
	if said := w.text.String(); between == "" && said != "" && isWordByte(said[len(said)-1]) && isWordByte(s[0]) {
		between = " "
	}
	if said := w.text.String(); strings.HasSuffix(said, "/") && strings.HasPrefix(between, "/") {
		between = " "
	}
	w.text.WriteString(between)
	at := w.text.Len()
	w.text.WriteString(s)
	return at
}

// open writes a token that begins a part.
func (w *writer) open(s string) int {
	at := w.put(s)
	w.deep++
	if w.deep > 64 && w.tooDeep < 0 {
		w.tooDeep = at
	}
	return at
}

func (w *writer) shut(s string) {
	w.put(s)
	w.deep--
}

// sign is a binary expression's mark.
func sign(op int) string {
	return map[int]string{
		api.ExMul: "*", api.ExDiv: "/", api.ExRem: "%", api.ExAdd: "+", api.ExSub: "-", api.ExLess: "<", api.ExMost: "<=", api.ExMore: ">",
		api.ExLeast: ">=", api.ExSame: "==", api.ExUnlike: "!=", api.ExAnd: "&&", api.ExOr: "||",
	}[op]
}

// The parts of the grammar of which an expression is one; a later one is also one of those ahead.
const (
	anExpr0 = iota
	aBoth
	aHeld
	aSum
	aTerm
	aUnary
	aTail
	aPrime
)

// part is the grammar's part that an expression is, written without parentheses.
func part(e api.Expr) int {
	switch e.Op {
	case api.ExOr:
		return anExpr0
	case api.ExAnd:
		return aBoth
	case api.ExLess, api.ExMost, api.ExMore, api.ExLeast, api.ExSame, api.ExUnlike:
		return aHeld
	case api.ExAdd, api.ExSub:
		return aSum
	case api.ExMul, api.ExDiv, api.ExRem:
		return aTerm
	case api.ExNeg, api.ExNot:
		return aUnary
	case api.ExField, api.ExAt, api.ExAs, api.ExIs:
		return aTail
	case api.ExInt:
		if e.Num < 0 {
			return aUnary
		}
	}
	return aPrime
}

// wants are the parts that the grammar wants on both sides of a mark.
func wants(op int) (int, int) {
	switch own := part(api.Expr{Op: op}); own {
	case aHeld:
		return aSum, aSum
	default:
		return own, own + 1
	}
}

// expr writes an expression where a part of the grammar is wanted.
func (w *writer) expr(e api.Expr, wanted int) api.Expr {
	n := 0
	if part(e) < wanted {
		n = 1
	}
	if !w.needful && w.d.Below(6) == 0 {
		n++
	}
	for range n {
		w.open("(")
	}
	e = w.bare(e)
	for range n {
		w.shut(")")
	}
	return e
}

func (w *writer) bare(e api.Expr) api.Expr {
	kids := e.Kids
	e.Kids = nil
	kid := func(i, wanted int) { e.Kids = append(e.Kids, w.expr(kids[i], wanted)) }
	switch e.Op {
	case api.ExInt:
		e.At = w.number(e.Num)
	case api.ExBool:
		e.At = w.put([]string{"false", "true"}[e.Num])
	case api.ExNull:
		e.At = w.put("null")
	case api.ExName:
		e.At = w.put(e.Name)
	case api.ExCall:
		e.At = w.put(e.Name)
		w.open("(")
		for i := range kids {
			if i > 0 {
				w.put(",")
			}
			kid(i, anExpr0)
		}
		w.shut(")")
	case api.ExNew:
		e.At = w.put("new")
		w.put(e.Name)
	case api.ExMake, api.ExLen:
		if e.At = w.put(map[int]string{api.ExMake: "new", api.ExLen: "len"}[e.Op]); e.Op == api.ExMake {
			w.put("ints")
		}
		w.open("(")
		kid(0, anExpr0)
		w.shut(")")
	case api.ExNeg, api.ExNot:
		e.At = w.open(map[int]string{api.ExNeg: "-", api.ExNot: "!"}[e.Op])
		if e.Op == api.ExNeg && kids[0].Op == api.ExInt && kids[0].Num == 1<<31 {
			kid(0, aPrime+1)
		} else {
			kid(0, aUnary)
		}
		w.deep--
	case api.ExField, api.ExAs, api.ExIs:
		kid(0, aTail)
		e.At = w.put(map[int]string{api.ExField: ".", api.ExAs: "as", api.ExIs: "is"}[e.Op])
		w.put(e.Name)
	case api.ExAt:
		kid(0, aTail)
		e.At = w.open("[")
		kid(1, anExpr0)
		w.shut("]")
	default:
		left, right := wants(e.Op)
		kid(0, left)
		e.At = w.put(sign(e.Op))
		kid(1, right)
	}
	return e
}

// number writes noughts ahead, now and then.
func (w *writer) number(n int) int {
	noughts := ""
	if !w.needful && w.d.Below(5) == 0 {
		noughts = "00"
	}
	if n >= 0 {
		return w.put(noughts + strconv.Itoa(n))
	}
	at := w.open("-")
	w.put(noughts + strconv.Itoa(-n))
	w.deep--
	return at
}

func (w *writer) block(l []api.Stmt) []api.Stmt {
	var out []api.Stmt
	w.open("{")
	for _, s := range l {
		out = append(out, w.stmt(s))
	}
	w.shut("}")
	return out
}

func (w *writer) stmt(s api.Stmt) api.Stmt {
	exprs := s.Exprs
	s.Exprs = nil
	one := func(i int) { s.Exprs = append(s.Exprs, w.expr(exprs[i], anExpr0)) }
	switch s.Op {
	case api.StVar:
		s.At = w.put("var")
		w.put(s.Name)
		w.put(s.Of)
		w.put("=")
		one(0)
	case api.StSet:
		s.At = w.firstOf(func() { one(0) })
		w.put("=")
		one(1)
	case api.StIf:
		s.At = w.put("if")
		w.branches(&s, exprs[0])
		return s
	case api.StWhile:
		s.At = w.put("while")
		one(0)
		s.Body = w.block(s.Body)
		return s
	case api.StBreak:
		s.At = w.put("break")
	case api.StContinue:
		s.At = w.put("continue")
	case api.StReturn:
		s.At = w.put("return")
		if len(exprs) > 0 {
			one(0)
		}
	case api.StTell:
		s.At = w.put("tell")
		one(0)
	case api.StFail:
		s.At = w.put("fail")
		w.put(strconv.Itoa(s.Num))
	case api.StCall:
		s.At = w.firstOf(func() { one(0) })
	}
	w.put(";")
	return s
}

// firstOf is the place of the first token that is written; blanks are written ahead of it, so that none come with it.
func (w *writer) firstOf(write func()) int {
	w.text.WriteString(" ")
	from := w.text.Len()
	write()
	said := w.text.String()[from:]
	for {
		said = strings.TrimLeft(said, " \n\t\r")
		if !strings.HasPrefix(said, "//") {
			return w.text.Len() - len(said)
		}
		said = said[strings.Index(said, "\n"):]
	}
}

// branches are written behind an if's word; an else with one if alone in either of two ways.
func (w *writer) branches(s *api.Stmt, e api.Expr) {
	s.Exprs = []api.Expr{w.expr(e, anExpr0)}
	s.Body = w.block(s.Body)
	if len(s.Else) == 0 && (w.needful || w.d.Below(2) == 0) {
		return
	}
	w.put("else")
	if len(s.Else) != 1 || s.Else[0].Op != api.StIf || !w.needful && w.d.Below(3) == 0 {
		s.Else = w.block(s.Else)
		return
	}
	then := s.Else[0]
	then.At = w.open("if")
	w.branches(&then, then.Exprs[0])
	w.deep--
	s.Else = []api.Stmt{then}
}

func (w *writer) params(l []api.Param) []api.Param {
	var out []api.Param
	for i, x := range l {
		if i > 0 {
			w.put(",")
		}
		x.At = w.put(x.Name)
		w.put(x.Of)
		out = append(out, x)
	}
	return out
}

func (w *writer) record(r api.Record) api.Record {
	w.put("record")
	r.At = w.put(r.Name)
	if r.Parent != "" {
		w.put(":")
		w.put(r.Parent)
	}
	w.open("{")
	r.Fields = w.params(r.Fields)
	w.shut("}")
	return r
}

func (w *writer) fun(f api.Fun) api.Fun {
	w.put("fun")
	f.At = w.put(f.Name)
	w.open("(")
	f.Params = w.params(f.Params)
	w.shut(")")
	if f.Of != "" {
		w.put(f.Of)
	}
	f.Body = w.block(f.Body)
	return f
}

// program writes records and functions, mixed as the dice fall.
func (w *writer) program(p api.Program) api.Program {
	var out api.Program
	for len(out.Records) < len(p.Records) || len(out.Funs) < len(p.Funs) {
		i, j := len(out.Records), len(out.Funs)
		if j == len(p.Funs) || i < len(p.Records) && w.d.Below(2) == 0 {
			out.Records = append(out.Records, w.record(p.Records[i]))
		} else {
			out.Funs = append(out.Funs, w.fun(p.Funs[j]))
		}
	}
	return out
}
