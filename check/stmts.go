package check

import (
	"proviso/api"
	"proviso/fault"
)

// maxFail is the greatest number with which a program may fail.
const maxFail = 200

// bodies looks at functions' statements, one function at a time.
type bodies struct {
	exprs
	result api.Type
	locals int
	loops  int // that stand around
}

// fun puts a body into a function.
func (b *bodies) fun(f *api.Fun, body []api.Stmt) {
	b.seen, b.result, b.locals, b.loops = map[string]variable{}, f.Result, 0, 0
	for _, p := range f.Params {
		b.see(p.Name, p.Type)
	}
	f.Body = b.block(body)
	f.Locals = b.locals
	if f.Result != api.TTop && !Ends(f.Body) {
		fault.GiveUp(f.At, api.ErrEnd)
	}
}

// see makes a name the next local's.
func (b *bodies) see(name string, t api.Type) int {
	n := b.locals
	b.seen[name] = variable{n, t}
	b.locals++
	return n
}

// block looks at statements; the names that they make known are not seen behind them.
func (b *bodies) block(l []api.Stmt) []api.Stmt {
	var out []api.Stmt
	var own []string
	for _, s := range l {
		b.count(s.At)
		out = append(out, b.stmt(s))
		if s.Op == api.StVar {
			own = append(own, s.Name)
		}
	}
	for _, name := range own {
		delete(b.seen, name)
	}
	return out
}

func (b *bodies) stmt(s api.Stmt) api.Stmt {
	q := api.Stmt{Op: s.Op, At: s.At, Name: s.Name, Of: s.Of, Num: s.Num}
	switch s.Op {
	case api.StVar:
		b.variable(&q, s.Exprs)
	case api.StSet:
		b.set(&q, s.Exprs)
	case api.StIf:
		q.Exprs = b.one(s, api.TBool)
		q.Body, q.Else = b.block(s.Body), b.block(s.Else)
	case api.StWhile:
		q.Exprs = b.one(s, api.TBool)
		b.loops++
		q.Body = b.block(s.Body)
		b.loops--
	case api.StReturn:
		q.Exprs = b.given(s)
	case api.StTell:
		q.Exprs = b.one(s, api.TInt)
	case api.StCall:
		q.Exprs = b.called(s)
	default:
		b.bare(s)
	}
	return q
}

// bare is a statement without parts.
func (b *bodies) bare(s api.Stmt) {
	need(s.At, s.Exprs, 0)
	switch s.Op {
	case api.StBreak, api.StContinue:
		if b.loops == 0 {
			fault.GiveUp(s.At, api.ErrPlace)
		}
	case api.StFail:
		if s.Num < 0 || s.Num > maxFail {
			fault.GiveUp(s.At, api.ErrRange)
		}
	default:
		fault.GiveUp(s.At, api.ErrArg)
	}
}

// one is a statement's only part, which must be of a type.
func (b *bodies) one(s api.Stmt, t api.Type) []api.Expr {
	need(s.At, s.Exprs, 1)
	e := b.expr(s.Exprs[0])
	b.must(e, t)
	return []api.Expr{e}
}

// variable: the type's word is looked at first, the name last.
func (b *bodies) variable(s *api.Stmt, l []api.Expr) {
	need(s.At, l, 1)
	s.Type = b.word(s.At, s.Of)
	e := b.expr(l[0])
	b.must(e, s.Type)
	s.Exprs = []api.Expr{e}
	if _, is := b.seen[s.Name]; is {
		fault.GiveUp(s.At, api.ErrTwice)
	}
	if b.locals == api.MaxLocals {
		fault.GiveUp(s.At, api.ErrMany)
	}
	s.Ref = b.see(s.Name, s.Type)
}

func (b *bodies) set(s *api.Stmt, l []api.Expr) {
	need(s.At, l, 2)
	switch l[0].Op {
	case api.ExName, api.ExField, api.ExAt:
	default:
		fault.GiveUp(s.At, api.ErrArg)
	}
	left := b.expr(l[0])
	right := b.expr(l[1])
	b.must(right, left.Type)
	s.Exprs = []api.Expr{left, right}
}

// given is what a return gives.
func (b *bodies) given(s api.Stmt) []api.Expr {
	if (len(s.Exprs) > 0) != (b.result != api.TTop) {
		fault.GiveUp(s.At, api.ErrPlace)
	}
	if len(s.Exprs) == 0 {
		return nil
	}
	return b.one(s, b.result)
}

// called is a call, whatever it gives.
func (b *bodies) called(s api.Stmt) []api.Expr {
	need(s.At, s.Exprs, 1)
	if s.Exprs[0].Op != api.ExCall {
		fault.GiveUp(s.At, api.ErrArg)
	}
	return []api.Expr{b.expr(s.Exprs[0])}
}
