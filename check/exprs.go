package check

import (
	"math"

	"proviso/api"
	"proviso/fault"
	"proviso/types"
)

// variable is a local, and its type.
type variable struct {
	local int
	is    api.Type
}

// exprs looks at expressions, with the names that are seen there.
type exprs struct {
	*decls
	seen  map[string]variable
	parts int // that were looked at: a tree made by hand may have more than any text
}

// count is told each part, which has a token of its own.
func (x *exprs) count(at int) {
	x.parts++
	if x.parts > api.MaxTokens {
		fault.GiveUp(at, api.ErrLong)
	}
}

// rule is an expression's whose parts must be just of these types (TTop: there is none).
type rule struct {
	parts [2]api.Type
	whole api.Type
}

var rules = [api.NumEx]rule{
	api.ExNeg:   {[2]api.Type{api.TInt}, api.TInt},
	api.ExNot:   {[2]api.Type{api.TBool}, api.TBool},
	api.ExMul:   {[2]api.Type{api.TInt, api.TInt}, api.TInt},
	api.ExDiv:   {[2]api.Type{api.TInt, api.TInt}, api.TInt},
	api.ExRem:   {[2]api.Type{api.TInt, api.TInt}, api.TInt},
	api.ExAdd:   {[2]api.Type{api.TInt, api.TInt}, api.TInt},
	api.ExSub:   {[2]api.Type{api.TInt, api.TInt}, api.TInt},
	api.ExLess:  {[2]api.Type{api.TInt, api.TInt}, api.TBool},
	api.ExMost:  {[2]api.Type{api.TInt, api.TInt}, api.TBool},
	api.ExMore:  {[2]api.Type{api.TInt, api.TInt}, api.TBool},
	api.ExLeast: {[2]api.Type{api.TInt, api.TInt}, api.TBool},
	api.ExAnd:   {[2]api.Type{api.TBool, api.TBool}, api.TBool},
	api.ExOr:    {[2]api.Type{api.TBool, api.TBool}, api.TBool},
	api.ExMake:  {[2]api.Type{api.TInt}, api.TInts},
	api.ExAt:    {[2]api.Type{api.TInts, api.TInt}, api.TInt},
	api.ExLen:   {[2]api.Type{api.TInts}, api.TInt},
}

// expr is an expression with its type, and what its name means.
func (x *exprs) expr(e api.Expr) api.Expr {
	x.count(e.At)
	e.Class, e.Ref = 0, 0
	switch e.Op {
	case api.ExInt, api.ExBool, api.ExNull, api.ExName, api.ExNew:
		need(e.At, e.Kids, 0)
		x.simple(&e)
	case api.ExSame, api.ExUnlike:
		x.held(&e)
	case api.ExCall:
		x.call(&e)
	case api.ExField:
		x.field(&e)
	case api.ExAs, api.ExIs:
		x.cast(&e)
	default:
		x.plain(&e)
	}
	return e
}

// need gives up where a tree made by hand lacks parts, or has too many.
func need(at int, l []api.Expr, n int) {
	if len(l) != n {
		fault.GiveUp(at, api.ErrArg)
	}
}

// simple is an expression without parts.
func (x *exprs) simple(e *api.Expr) {
	e.Kids = nil
	switch e.Op {
	case api.ExInt:
		if e.Num < math.MinInt32 || e.Num > math.MaxInt32 {
			fault.GiveUp(e.At, api.ErrRange)
		}
		e.Type = api.TInt
	case api.ExBool:
		if e.Num != 0 && e.Num != 1 {
			fault.GiveUp(e.At, api.ErrArg)
		}
		e.Type = api.TBool
	case api.ExNull:
		e.Type = api.TNull
	case api.ExName:
		v, is := x.seen[e.Name]
		if !is {
			fault.GiveUp(e.At, api.ErrUnknown)
		}
		e.Type, e.Ref = v.is, v.local
	case api.ExNew:
		e.Ref = x.classOf(e.At, e.Name)
		e.Type = api.TClass + api.Type(e.Ref)
	}
}

// must gives up where an expression is not of a type.
func (x *exprs) must(e api.Expr, t api.Type) {
	if !types.Sub(x.classes, e.Type, t) {
		fault.GiveUp(e.At, api.ErrMust)
	}
}

// all are so many parts, looked at one by one.
func (x *exprs) all(e *api.Expr, n int) {
	need(e.At, e.Kids, n)
	kids := e.Kids
	e.Kids = nil
	for _, k := range kids {
		e.Kids = append(e.Kids, x.expr(k))
	}
}

// plain is an expression of a rule: a part is held against its type ahead of the next one.
func (x *exprs) plain(e *api.Expr) {
	r := ruleOf(e.Op)
	kids := e.Kids
	e.Kids = nil
	for i, t := range r.parts {
		if t == api.TTop {
			break
		}
		if i == len(kids) {
			fault.GiveUp(e.At, api.ErrArg)
		}
		k := x.expr(kids[i])
		if k.Type != t {
			fault.GiveUp(k.At, api.ErrMust)
		}
		e.Kids = append(e.Kids, k)
	}
	need(e.At, kids, len(e.Kids))
	if e.Type = r.whole; e.Type == api.TTop {
		fault.GiveUp(e.At, api.ErrArg)
	}
}

// ruleOf is an expression's; without a whole, if there is none.
func ruleOf(op int) rule {
	if op < 0 || op >= len(rules) {
		return rule{}
	}
	return rules[op]
}

// held is an expression of two that must be such as can be the same.
func (x *exprs) held(e *api.Expr) {
	x.all(e, 2)
	a, b := e.Kids[0].Type, e.Kids[1].Type
	switch {
	case a == b && (a == api.TInt || a == api.TBool):
	case types.IsRef(a) && types.IsRef(b) && (types.Sub(x.classes, a, b) || types.Sub(x.classes, b, a)):
	default:
		fault.GiveUp(e.At, api.ErrMust)
	}
	e.Type = api.TBool
}

func (x *exprs) call(e *api.Expr) {
	x.all(e, len(e.Kids))
	fn, is := x.fun[e.Name]
	if !is {
		fault.GiveUp(e.At, api.ErrUnknown)
	}
	s := x.sigs[fn]
	if len(e.Kids) != len(s.Params) {
		fault.GiveUp(e.At, api.ErrCount)
	}
	for i, t := range s.Params {
		x.must(e.Kids[i], t)
	}
	e.Type, e.Ref = s.Result, fn
}

func (x *exprs) field(e *api.Expr) {
	x.all(e, 1)
	of := e.Kids[0]
	if of.Type < api.TClass {
		fault.GiveUp(of.At, api.ErrMust)
	}
	c := int(of.Type - api.TClass)
	n, t, is := types.Find(x.classes, c, e.Name)
	if !is {
		fault.GiveUp(e.At, api.ErrUnknown)
	}
	e.Type, e.Class, e.Ref = t, c, n
}

// cast is an as or an is: the record's name is looked up ahead of what is held against it.
func (x *exprs) cast(e *api.Expr) {
	x.all(e, 1)
	e.Ref = x.classOf(e.At, e.Name)
	x.must(e.Kids[0], api.TAny)
	e.Type = api.TBool
	if e.Op == api.ExAs {
		e.Type = api.TClass + api.Type(e.Ref)
	}
}
