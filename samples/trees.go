package samples

import "proviso/api"

// Parts are all statements and expressions of a program, where they stand: each ahead of those within it.
func Parts(p *api.Program) ([]*api.Stmt, []*api.Expr) {
	var w parts
	for i := range p.Funs {
		w.block(p.Funs[i].Body)
	}
	return w.stmts, w.exprs
}

type parts struct {
	stmts []*api.Stmt
	exprs []*api.Expr
}

func (w *parts) block(l []api.Stmt) {
	for i := range l {
		s := &l[i]
		w.stmts = append(w.stmts, s)
		w.kids(s.Exprs)
		w.block(s.Body)
		w.block(s.Else)
	}
}

func (w *parts) kids(l []api.Expr) {
	for i := range l {
		w.exprs = append(w.exprs, &l[i])
		w.kids(l[i].Kids)
	}
}
