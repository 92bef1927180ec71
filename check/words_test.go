package check_test

import (
	"slices"

	"proviso/api"
)

// Types are told by their words here: int, bool, null, ints, any, none (nothing is given), a record's name; what a fault leaves open is unknown.
const unknown = "?"

// looker is chapter 12 over again: it goes on behind a fault, and keeps all of them in the order in which they are looked for. What is to be put in, it puts into the tree in place.
type looker struct {
	p      *api.Program
	faults []api.Fault
	vars   []seen
	locals int
	loops  int
	f      *api.Fun
}

type seen struct {
	name, of string
	local    int
}

func (o *looker) fault(at int, why api.Errno) {
	o.faults = append(o.faults, api.Fault{At: at, Why: why})
}

// looked is the first fault, if there is one; else all is put into the program.
func looked(p *api.Program) api.Fault {
	o := &looker{p: p}
	o.records()
	o.fields()
	o.funs()
	for i := range p.Funs {
		o.body(&p.Funs[i])
	}
	if len(o.faults) > 0 {
		return o.faults[0]
	}
	return api.Fault{}
}

// record is the number of the first one of a name among the first so many; -1.
func (o *looker) record(name string, n int) int {
	return slices.IndexFunc(o.p.Records[:n], func(r api.Record) bool { return r.Name == name })
}

func (o *looker) recordNow(name string) int { return o.record(name, len(o.p.Records)) }

func (o *looker) isWord(of string) bool {
	return slices.Contains([]string{"int", "bool", "ints", "any"}, of) || o.recordNow(of) >= 0
}

// code is the type of a word.
func (o *looker) code(of string) api.Type {
	if i := slices.Index([]string{"none", "int", "bool", "null", "ints", "any"}, of); i >= 0 {
		return api.Type(i)
	}
	return api.TClass + api.Type(o.recordNow(of))
}

// line are the numbers of a record and of those above it; a parent stands ahead.
func (o *looker) line(c int) []int {
	var l []int
	for c >= 0 {
		l = append(l, c)
		c = o.record(o.p.Records[c].Parent, c)
	}
	return l
}

func (o *looker) isRef(of string) bool {
	return of == "null" || of == "ints" || of == "any" || o.recordNow(of) >= 0
}

// isOf is chapter 2's order, of words.
func (o *looker) isOf(a, b string) bool {
	switch {
	case a == unknown || b == unknown || a == b:
		return true
	case a == "null":
		return o.isRef(b)
	case b == "any":
		return o.isRef(a)
	}
	x, y := o.recordNow(a), o.recordNow(b)
	return x >= 0 && y >= 0 && slices.Contains(o.line(x), y)
}

func (o *looker) records() {
	for i, r := range o.p.Records {
		if i == 32 {
			o.fault(r.At, api.ErrMany)
		}
		if o.record(r.Name, i) >= 0 {
			o.fault(r.At, api.ErrTwice)
		}
		if r.Parent != "" && o.record(r.Parent, i) < 0 {
			o.fault(r.At, api.ErrParent)
		}
	}
}

// allFields are a record's names, those of its line's upmost one first.
func (o *looker) allFields(c int) []api.Param {
	var l []api.Param
	line := o.line(c)
	slices.Reverse(line)
	for _, x := range line {
		l = append(l, o.p.Records[x].Fields...)
	}
	return l
}

func (o *looker) fields() {
	for c := range o.p.Records {
		all := o.allFields(c)
		own := o.p.Records[c].Fields
		above := len(all) - len(own)
		for i := range own {
			f := &own[i]
			if slices.ContainsFunc(all[:above+i], func(x api.Param) bool { return x.Name == f.Name }) {
				o.fault(f.At, api.ErrTwice)
			}
			if !o.isWord(f.Of) {
				o.fault(f.At, api.ErrUnknown)
			}
			if above+i >= 32 {
				o.fault(f.At, api.ErrMany)
			}
			f.Type = o.code(f.Of)
		}
	}
}

func (o *looker) funs() {
	for i := range o.p.Funs {
		f := &o.p.Funs[i]
		if i == 64 {
			o.fault(f.At, api.ErrMany)
		}
		if slices.ContainsFunc(o.p.Funs[:i], func(g api.Fun) bool { return g.Name == f.Name }) {
			o.fault(f.At, api.ErrTwice)
		}
		for n := range f.Params {
			x := &f.Params[n]
			if n >= 8 {
				o.fault(x.At, api.ErrMany)
			}
			if slices.ContainsFunc(f.Params[:n], func(y api.Param) bool { return y.Name == x.Name }) {
				o.fault(x.At, api.ErrTwice)
			}
			if !o.isWord(x.Of) {
				o.fault(x.At, api.ErrUnknown)
			}
			x.Type = o.code(x.Of)
		}
		if f.Of != "" && !o.isWord(f.Of) {
			o.fault(f.At, api.ErrUnknown)
		}
		f.Result = api.TTop
		if f.Of != "" {
			f.Result = o.code(f.Of)
		}
	}
}

func (o *looker) body(f *api.Fun) {
	o.f, o.vars, o.locals, o.loops = f, nil, 0, 0
	for _, x := range f.Params {
		o.vars = append(o.vars, seen{x.Name, x.Of, o.locals})
		o.locals++
	}
	o.stmts(f.Body)
	f.Locals = o.locals
	if f.Of != "" && !ends(f.Body) {
		o.fault(f.At, api.ErrEnd)
	}
}

// ends is 12.2's.
func ends(l []api.Stmt) bool {
	if len(l) == 0 {
		return false
	}
	s := l[len(l)-1]
	return s.Op == api.StReturn || s.Op == api.StFail || s.Op == api.StIf && ends(s.Body) && ends(s.Else)
}

func (o *looker) stmts(l []api.Stmt) {
	n := len(o.vars)
	for i := range l {
		o.stmt(&l[i])
	}
	o.vars = o.vars[:n]
}

func (o *looker) find(name string) (seen, bool) {
	i := slices.IndexFunc(o.vars, func(v seen) bool { return v.name == name })
	if i < 0 {
		return seen{of: unknown}, false
	}
	return o.vars[i], true
}

func (o *looker) stmt(s *api.Stmt) {
	switch s.Op {
	case api.StVar:
		if !o.isWord(s.Of) {
			o.fault(s.At, api.ErrUnknown)
		}
		o.must(&s.Exprs[0], s.Of)
		if _, is := o.find(s.Name); is {
			o.fault(s.At, api.ErrTwice)
		}
		if o.locals == 16 {
			o.fault(s.At, api.ErrMany)
		}
		s.Type, s.Ref = o.code(s.Of), o.locals
		o.vars = append(o.vars, seen{s.Name, s.Of, o.locals})
		o.locals++
	case api.StSet:
		o.must(&s.Exprs[1], o.expr(&s.Exprs[0]))
	case api.StIf:
		o.must(&s.Exprs[0], "bool")
		o.stmts(s.Body)
		o.stmts(s.Else)
	case api.StWhile:
		o.must(&s.Exprs[0], "bool")
		o.loops++
		o.stmts(s.Body)
		o.loops--
	case api.StBreak, api.StContinue:
		if o.loops == 0 {
			o.fault(s.At, api.ErrPlace)
		}
	case api.StReturn:
		if (o.f.Of == "") != (len(s.Exprs) == 0) {
			o.fault(s.At, api.ErrPlace)
		} else if o.f.Of != "" {
			o.must(&s.Exprs[0], o.f.Of)
		}
	case api.StTell:
		o.must(&s.Exprs[0], "int")
	case api.StFail:
		if s.Num > 200 {
			o.fault(s.At, api.ErrRange)
		}
	case api.StCall:
		o.expr(&s.Exprs[0])
	}
}

// must looks at a part, and holds it against a type.
func (o *looker) must(e *api.Expr, of string) {
	if is := o.expr(e); !o.isOf(is, of) {
		o.fault(e.At, api.ErrMust)
	}
}

// rows must be of ints as they are: null is none.
func (o *looker) row(e *api.Expr) {
	if is := o.expr(e); is != "ints" && is != unknown {
		o.fault(e.At, api.ErrMust)
	}
}

// expr puts an expression's type in, and tells its word.
func (o *looker) expr(e *api.Expr) string {
	e.Class, e.Ref = 0, 0
	of := o.whole(e)
	e.Type = api.TTop
	if of != unknown {
		e.Type = o.code(of)
	}
	return of
}

func (o *looker) both(e *api.Expr, of, whole string) string {
	for i := range e.Kids {
		o.must(&e.Kids[i], of)
	}
	return whole
}

func (o *looker) whole(e *api.Expr) string {
	switch e.Op {
	case api.ExInt:
		if e.Num < -1<<31 || e.Num > 1<<31-1 {
			o.fault(e.At, api.ErrRange)
		}
		return "int"
	case api.ExBool:
		return "bool"
	case api.ExNull:
		return "null"
	case api.ExName:
		v, is := o.find(e.Name)
		if !is {
			o.fault(e.At, api.ErrUnknown)
		}
		e.Ref = v.local
		return v.of
	case api.ExNeg, api.ExMul, api.ExDiv, api.ExRem, api.ExAdd, api.ExSub:
		return o.both(e, "int", "int")
	case api.ExNot, api.ExAnd, api.ExOr:
		return o.both(e, "bool", "bool")
	case api.ExLess, api.ExMost, api.ExMore, api.ExLeast:
		return o.both(e, "int", "bool")
	case api.ExSame, api.ExUnlike:
		return o.held(e)
	case api.ExCall:
		return o.call(e)
	case api.ExNew:
		return o.class(e)
	case api.ExMake:
		return o.both(e, "int", "ints")
	case api.ExField:
		return o.field(e)
	case api.ExAt:
		o.row(&e.Kids[0])
		o.must(&e.Kids[1], "int")
		return "int"
	case api.ExLen:
		o.row(&e.Kids[0])
		return "int"
	}
	is := o.expr(&e.Kids[0])
	of := o.class(e)
	if !o.isRef(is) && is != unknown {
		o.fault(e.Kids[0].At, api.ErrMust)
	}
	if e.Op == api.ExIs {
		return "bool"
	}
	return of
}

// class is that of an expression's name.
func (o *looker) class(e *api.Expr) string {
	if o.recordNow(e.Name) < 0 {
		o.fault(e.At, api.ErrUnknown)
		return unknown
	}
	e.Ref = o.recordNow(e.Name)
	return e.Name
}

func (o *looker) held(e *api.Expr) string {
	a, b := o.expr(&e.Kids[0]), o.expr(&e.Kids[1])
	plain := a == b && (a == "int" || a == "bool")
	refs := o.isRef(a) && o.isRef(b) && (o.isOf(a, b) || o.isOf(b, a))
	if !plain && !refs && a != unknown && b != unknown {
		o.fault(e.At, api.ErrMust)
	}
	return "bool"
}

func (o *looker) call(e *api.Expr) string {
	var is []string
	for i := range e.Kids {
		is = append(is, o.expr(&e.Kids[i]))
	}
	fn := slices.IndexFunc(o.p.Funs, func(f api.Fun) bool { return f.Name == e.Name })
	if fn < 0 {
		o.fault(e.At, api.ErrUnknown)
		return unknown
	}
	f := o.p.Funs[fn]
	if len(f.Params) != len(is) {
		o.fault(e.At, api.ErrCount)
		return unknown
	}
	for i, x := range f.Params {
		if !o.isOf(is[i], x.Of) {
			o.fault(e.Kids[i].At, api.ErrMust)
		}
	}
	e.Ref = fn
	if f.Of == "" {
		return "none"
	}
	return f.Of
}

func (o *looker) field(e *api.Expr) string {
	is := o.expr(&e.Kids[0])
	if is == unknown {
		return unknown
	}
	c := o.recordNow(is)
	if c < 0 {
		o.fault(e.Kids[0].At, api.ErrMust)
		return unknown
	}
	all := o.allFields(c)
	n := slices.IndexFunc(all, func(f api.Param) bool { return f.Name == e.Name })
	if n < 0 {
		o.fault(e.At, api.ErrUnknown)
		return unknown
	}
	e.Class, e.Ref = c, n
	return all[n].Of
}
