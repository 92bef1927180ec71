package gen

import "proviso/api"

// marks are, by expression, what stands behind the code of its operands, where that hangs on nothing else.
var marks = [api.NumEx][]byte{
	api.ExNull:  {api.OpNull},
	api.ExNeg:   {api.OpNeg},
	api.ExNot:   {api.OpNot},
	api.ExMul:   {api.OpMul},
	api.ExDiv:   {api.OpDiv},
	api.ExRem:   {api.OpRem},
	api.ExAdd:   {api.OpAdd},
	api.ExSub:   {api.OpSub},
	api.ExLess:  {api.OpLess},
	api.ExMost:  {api.OpSwap, api.OpLess, api.OpNot},
	api.ExMore:  {api.OpSwap, api.OpLess},
	api.ExLeast: {api.OpLess, api.OpNot},
	api.ExMake:  {api.OpMake},
	api.ExAt:    {api.OpAt},
	api.ExLen:   {api.OpLen},
}

func (w *writer) expr(e api.Expr) {
	switch e.Op {
	case api.ExAnd:
		w.expr(e.Kids[0])
		w.choose(func() { w.expr(e.Kids[1]) }, true, func() { w.put(api.OpBool, 0) })
	case api.ExOr:
		w.expr(e.Kids[0])
		w.choose(func() { w.put(api.OpBool, 1) }, true, func() { w.expr(e.Kids[1]) })
	default:
		w.exprs(e.Kids)
		w.own(e)
	}
}

func (w *writer) exprs(l []api.Expr) {
	for _, e := range l {
		w.expr(e)
	}
}

// own is what an expression has behind its operands.
func (w *writer) own(e api.Expr) {
	switch e.Op {
	case api.ExInt:
		w.put(api.OpInt, e.Num)
	case api.ExBool:
		w.put(api.OpBool, e.Num)
	case api.ExName:
		w.put(api.OpLoad, e.Ref)
	case api.ExSame:
		w.same(e.Kids[0].Type)
	case api.ExUnlike:
		w.same(e.Kids[0].Type)
		w.put(api.OpNot)
	case api.ExCall:
		w.put(api.OpCall, e.Ref)
	case api.ExNew:
		w.put(api.OpNew, e.Ref)
	case api.ExField:
		w.put(api.OpGet, e.Class, e.Ref)
	case api.ExAs:
		w.put(api.OpCast, e.Ref)
	case api.ExIs:
		w.put(api.OpTest, e.Ref)
	default:
		for _, op := range marks[e.Op] {
			w.put(op)
		}
	}
}

// same holds two things against each other, the left one of which is of a type.
func (w *writer) same(left api.Type) {
	if left == api.TInt || left == api.TBool {
		w.put(api.OpSame)
	} else {
		w.put(api.OpIs)
	}
}

// choose does the one or the other, by the bool on the stack; the one need not be led past the other, if it never comes to its end.
func (w *writer) choose(one func(), comesToItsEnd bool, other func()) {
	var otherwise, behind place
	w.ahead(api.OpUnless, &otherwise)
	one()
	if comesToItsEnd {
		w.ahead(api.OpJump, &behind)
	}
	w.settle(&otherwise)
	other()
	w.settle(&behind)
}
