package parse

import (
	"proviso/api"
	"proviso/lex"
)

// stmts reads statements, and what they are made of.
type stmts struct{ exprs }

func (r *stmts) block() []api.Stmt {
	var l []api.Stmt
	r.open(api.TokOpen)
	for !r.is(api.TokShut) {
		l = append(l, r.stmt())
	}
	r.shut(api.TokShut)
	return l
}

func (r *stmts) stmt() api.Stmt {
	kind := r.kind(0)
	switch kind {
	case api.TokIf:
		s := api.Stmt{Op: api.StIf, At: r.take(kind).At}
		r.branches(&s)
		return s
	case api.TokWhile:
		s := api.Stmt{Op: api.StWhile, At: r.take(kind).At}
		s.Exprs = []api.Expr{r.expr()}
		s.Body = r.block()
		return s
	}
	s := r.plain(kind)
	r.take(api.TokSemi)
	return s
}

// plain is a statement without blocks, up to its semicolon.
func (r *stmts) plain(kind int) api.Stmt {
	switch kind {
	case api.TokVar:
		return r.variable()
	case api.TokBreak:
		return api.Stmt{Op: api.StBreak, At: r.take(kind).At}
	case api.TokContinue:
		return api.Stmt{Op: api.StContinue, At: r.take(kind).At}
	case api.TokReturn:
		s := api.Stmt{Op: api.StReturn, At: r.take(kind).At}
		if !r.is(api.TokSemi) {
			s.Exprs = []api.Expr{r.expr()}
		}
		return s
	case api.TokTell:
		at := r.take(kind).At
		return api.Stmt{Op: api.StTell, At: at, Exprs: []api.Expr{r.expr()}}
	case api.TokFail:
		at := r.take(kind).At
		return api.Stmt{Op: api.StFail, At: at, Num: r.take(api.TokNum).Num}
	}
	return r.callOrSet()
}

func (r *stmts) variable() api.Stmt {
	s := api.Stmt{Op: api.StVar, At: r.take(api.TokVar).At}
	s.Name = r.name()
	s.Of = r.word()
	r.take(api.TokSet)
	s.Exprs = []api.Expr{r.expr()}
	return s
}

// word is a type's, as it stands.
func (r *stmts) word() string {
	switch kind := r.kind(0); kind {
	case api.TokInt, api.TokBool, api.TokInts, api.TokAny:
		r.take(kind)
		return lex.Word(kind)
	}
	return r.name()
}

// branches are an if's, behind that word.
func (r *stmts) branches(s *api.Stmt) {
	s.Exprs = []api.Expr{r.expr()}
	s.Body = r.block()
	if !r.pass(api.TokElse) {
		return
	}
	if !r.is(api.TokIf) {
		s.Else = r.block()
		return
	}
	then := api.Stmt{Op: api.StIf, At: r.open(api.TokIf).At}
	r.branches(&then)
	r.deep--
	s.Else = []api.Stmt{then}
}

func (r *stmts) callOrSet() api.Stmt {
	at := r.place()
	e := r.expr()
	s := api.Stmt{Op: api.StCall, At: at, Exprs: []api.Expr{e}}
	switch {
	case r.is(api.TokSet) && isPlace(e):
		r.take(api.TokSet)
		s.Op, s.Exprs = api.StSet, []api.Expr{e, r.expr()}
	case e.Op != api.ExCall:
		r.giveUp(api.ErrToken)
	}
	return s
}

// isPlace tells whether something may be put where an expression stands.
func isPlace(e api.Expr) bool {
	return e.Op == api.ExName || e.Op == api.ExField || e.Op == api.ExAt
}
