package parse

import (
	"slices"

	"proviso/api"
)

// Same tells whether two programs are the same, but for places and what layer 12 puts in.
func Same(a, b api.Program) bool {
	return slices.EqualFunc(a.Records, b.Records, sameRecord) && slices.EqualFunc(a.Funs, b.Funs, sameFun)
}

func sameRecord(a, b api.Record) bool {
	return a.Name == b.Name && a.Parent == b.Parent && slices.EqualFunc(a.Fields, b.Fields, sameParam)
}

func sameFun(a, b api.Fun) bool {
	return a.Name == b.Name && a.Of == b.Of && slices.EqualFunc(a.Params, b.Params, sameParam) && sameStmts(a.Body, b.Body)
}

func sameParam(a, b api.Param) bool { return a.Name == b.Name && a.Of == b.Of }

func sameStmts(a, b []api.Stmt) bool { return slices.EqualFunc(a, b, sameStmt) }

func sameStmt(a, b api.Stmt) bool {
	return a.Op == b.Op && a.Name == b.Name && a.Of == b.Of && a.Num == b.Num &&
		slices.EqualFunc(a.Exprs, b.Exprs, sameExpr) && sameStmts(a.Body, b.Body) && sameStmts(a.Else, b.Else)
}

func sameExpr(a, b api.Expr) bool {
	return a.Op == b.Op && a.Name == b.Name && a.Num == b.Num && slices.EqualFunc(a.Kids, b.Kids, sameExpr)
}
