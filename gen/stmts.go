package gen

import (
	"proviso/api"
	"proviso/check"
)

// loop is a while that stands around: where it begins, and what lies behind it.
type loop struct {
	head   int
	behind *place
}

// body is a function's statements, behind which it always returns.
func (w *writer) body(l []api.Stmt) {
	w.stmts(l)
	if !check.Ends(l) {
		w.put(api.OpReturn)
	}
}

func (w *writer) stmts(l []api.Stmt) {
	for _, s := range l {
		w.stmt(s)
	}
}

func (w *writer) stmt(s api.Stmt) {
	switch s.Op {
	case api.StSet:
		w.set(s.Exprs[0], s.Exprs[1])
	case api.StIf:
		w.branches(s)
	case api.StWhile:
		w.while(s)
	default:
		w.exprs(s.Exprs)
		w.plain(s)
	}
}

// plain is what a statement without bodies has behind its expression.
func (w *writer) plain(s api.Stmt) {
	switch s.Op {
	case api.StVar:
		w.put(api.OpStore, s.Ref)
	case api.StBreak:
		w.ahead(api.OpJump, w.around().behind)
	case api.StContinue:
		w.put(api.OpJump, w.around().head)
	case api.StReturn:
		w.put(api.OpReturn)
	case api.StTell:
		w.put(api.OpTell)
	case api.StFail:
		w.put(api.OpTrap, s.Num)
	case api.StCall:
		if s.Exprs[0].Type != api.TTop {
			w.put(api.OpPop)
		}
	}
}

// set puts a value into a name, a field or a place of a row; what these are of stands ahead of the value.
func (w *writer) set(left, right api.Expr) {
	w.exprs(left.Kids)
	w.expr(right)
	switch left.Op {
	case api.ExName:
		w.put(api.OpStore, left.Ref)
	case api.ExField:
		w.put(api.OpPut, left.Class, left.Ref)
	case api.ExAt:
		w.put(api.OpSet)
	}
}

func (w *writer) branches(s api.Stmt) {
	w.exprs(s.Exprs)
	if len(s.Else) > 0 {
		w.choose(func() { w.stmts(s.Body) }, !check.Ends(s.Body), func() { w.stmts(s.Else) })
		return
	}
	var behind place
	w.ahead(api.OpUnless, &behind)
	w.stmts(s.Body)
	w.settle(&behind)
}

func (w *writer) while(s api.Stmt) {
	var behind place
	head := w.here
	w.exprs(s.Exprs)
	w.ahead(api.OpUnless, &behind)
	w.loops = append(w.loops, loop{head, &behind})
	w.stmts(s.Body)
	w.loops = w.loops[:len(w.loops)-1]
	if !check.Ends(s.Body) {
		w.put(api.OpJump, head)
	}
	w.settle(&behind)
}

// around is the innermost loop: check has seen to it that there is one.
func (w *writer) around() loop { return w.loops[len(w.loops)-1] }
