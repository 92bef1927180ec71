package parse

import (
	"strconv"

	"proviso/api"
	"proviso/fault"
	"proviso/lex"
)

// plain is a statement without blocks, up to its semicolon.
func (w *printer) plain(s api.Stmt) {
	switch s.Op {
	case api.StVar:
		w.put("var ", s.Name, " ", s.Of, " = ")
		w.one(s.Exprs)
	case api.StSet:
		w.need(s.Exprs, 2)
		w.expr(s.Exprs[0], levelOr)
		w.put(" = ")
		w.expr(s.Exprs[1], levelOr)
	case api.StBreak:
		w.put("break")
	case api.StContinue:
		w.put("continue")
	case api.StReturn:
		w.put("return")
		if len(s.Exprs) > 0 {
			w.put(" ")
			w.one(s.Exprs)
		}
	case api.StTell:
		w.put("tell ")
		w.one(s.Exprs)
	case api.StFail:
		w.put("fail ", strconv.Itoa(s.Num))
	default:
		w.one(s.Exprs)
	}
}

// need gives up where a tree made by hand lacks parts, or has too many.
func (w *printer) need(l []api.Expr, n int) {
	if len(l) != n {
		fault.GiveUp(0, api.ErrArg)
	}
}

func (w *printer) one(l []api.Expr) {
	w.need(l, 1)
	w.expr(l[0], levelOr)
}

// expr is an expression where the grammar wants one of a level, or of a higher one.
func (w *printer) expr(e api.Expr, level int) {
	w.count()
	if levelOf(e) >= level {
		w.bare(e)
		return
	}
	w.put("(")
	w.bare(e)
	w.put(")")
}

// levelOf is the level on which an expression stands; a number below 0 has a mark ahead of it.
func levelOf(e api.Expr) int {
	if b, is := byOp(e.Op); is {
		return b.level
	}
	if e.Op == api.ExNeg || e.Op == api.ExNot || e.Op == api.ExInt && e.Num < 0 {
		return levelUnary
	}
	return levelTail
}

func (w *printer) bare(e api.Expr) {
	switch e.Op {
	case api.ExInt:
		w.put(strconv.Itoa(e.Num))
	case api.ExBool:
		w.put(truth(e.Num))
	case api.ExNull:
		w.put("null")
	case api.ExName:
		w.put(e.Name)
	case api.ExCall:
		w.call(e)
	case api.ExNew:
		w.put("new ", e.Name)
	case api.ExMake:
		w.within("new ints", e.Kids)
	case api.ExLen:
		w.within("len", e.Kids)
	case api.ExNeg, api.ExNot:
		w.signed(e)
	case api.ExField, api.ExAt, api.ExAs, api.ExIs:
		w.tail(e)
	default:
		w.binary(e)
	}
}

func truth(n int) string {
	if n == 0 {
		return "false"
	}
	return "true"
}

func (w *printer) call(e api.Expr) {
	w.put(e.Name, "(")
	for i, k := range e.Kids {
		if i > 0 {
			w.put(", ")
		}
		w.expr(k, levelOr)
	}
	w.put(")")
}

func (w *printer) within(word string, l []api.Expr) {
	w.put(word, "(")
	w.one(l)
	w.put(")")
}

func (w *printer) signed(e api.Expr) {
	w.need(e.Kids, 1)
	k, level := e.Kids[0], levelUnary
	mark := "!"
	if e.Op == api.ExNeg {
		mark = "-"
		if k.Op == api.ExInt && k.Num == greatest {
			level = levelTail + 1 // with the mark right ahead it would be one number
		}
	}
	w.put(mark)
	w.expr(k, level)
}

func (w *printer) tail(e api.Expr) {
	n := 1
	if e.Op == api.ExAt {
		n = 2
	}
	w.need(e.Kids, n)
	w.expr(e.Kids[0], levelTail)
	switch e.Op {
	case api.ExField:
		w.put(".", e.Name)
	case api.ExAs:
		w.put(" as ", e.Name)
	case api.ExIs:
		w.put(" is ", e.Name)
	default:
		w.put("[")
		w.expr(e.Kids[1], levelOr)
		w.put("]")
	}
}

func (w *printer) binary(e api.Expr) {
	b, is := byOp(e.Op)
	if !is {
		fault.GiveUp(0, api.ErrArg)
	}
	w.need(e.Kids, 2)
	left := b.level
	if b.level == levelHeld {
		left++
	}
	w.expr(e.Kids[0], left)
	w.put(" ", lex.Word(b.mark), " ")
	w.expr(e.Kids[1], b.level+1)
}
