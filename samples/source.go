package samples

import (
	"strconv"

	"proviso/api"
	"proviso/parse"
	"proviso/types"
)

// Source is the text of a program that check takes, of some records and functions with about so many statements each.
func Source(d *Dice, size int) string {
	for range 100 {
		a := &author{d: d}
		a.invent()
		if text := parse.Print(a.program(size)); text != "" { // not too long, or too deep
			return text
		}
	}
	return "fun f0() {\n}\n"
}

// author writes statements of a function as the dice fall, each with names that are seen there.
type author struct {
	d       *Dice
	classes []api.Class
	sigs    []api.Sig
	vars    []api.Field // that are seen
	result  api.Type
	locals  int
	loops   int // that stand around
}

func pick[T any](d *Dice, l []T) T { return l[d.Below(len(l))] }

func numbered(prefix string, n int) string { return prefix + strconv.Itoa(n) }

// invent makes the table and the signatures.
func (a *author) invent() {
	n, fields := a.d.Below(5), 0
	for c := range n {
		a.classes = append(a.classes, api.Class{Name: numbered("p", c), Parent: a.d.Below(c+1) - 1})
	}
	for c := range n {
		for range a.d.Below(4) {
			a.classes[c].Fields = append(a.classes[c].Fields, api.Field{Name: numbered("x", fields), Type: a.stored()})
			fields++
		}
	}
	for range 1 + a.d.Below(4) {
		var s api.Sig
		for range a.d.Below(4) {
			s.Params = append(s.Params, a.stored())
		}
		if a.d.Below(4) > 0 {
			s.Result = a.stored()
		}
		a.sigs = append(a.sigs, s)
	}
}

// stored is a type of values; a number's more often than not.
func (a *author) stored() api.Type {
	all := []api.Type{api.TInt, api.TInt, api.TBool, api.TInts, api.TAny}
	return pick(a.d, append(all, a.below(api.TAny)...))
}

// below are the classes' types that are of t.
func (a *author) below(t api.Type) []api.Type {
	var l []api.Type
	for c := range a.classes {
		if is := api.TClass + api.Type(c); types.Sub(a.classes, is, t) {
			l = append(l, is)
		}
	}
	return l
}

func (a *author) program(size int) api.Program {
	var p api.Program
	for _, c := range a.classes {
		p.Records = append(p.Records, a.record(c))
	}
	for fn := range a.sigs {
		p.Funs = append(p.Funs, a.fun(fn, size))
	}
	return p
}

func (a *author) word(t api.Type) string { return types.Print(a.classes, t) }

func (a *author) record(c api.Class) api.Record {
	r := api.Record{Name: c.Name}
	if c.Parent >= 0 {
		r.Parent = a.classes[c.Parent].Name
	}
	for _, f := range c.Fields {
		r.Fields = append(r.Fields, api.Param{Name: f.Name, Of: a.word(f.Type)})
	}
	return r
}

func (a *author) fun(fn, size int) api.Fun {
	s := a.sigs[fn]
	f := api.Fun{Name: numbered("f", fn)}
	a.vars, a.locals, a.loops, a.result = nil, 0, 0, s.Result
	for _, t := range s.Params {
		f.Params = append(f.Params, api.Param{Name: a.see(t), Of: a.word(t)})
	}
	if s.Result != api.TTop {
		f.Of = a.word(s.Result)
	}
	f.Body = a.block(size, 3)
	if s.Result != api.TTop {
		f.Body = append(f.Body, a.back())
	}
	return f
}

// see is the name of one more local.
func (a *author) see(t api.Type) string {
	name := numbered("v", a.locals)
	a.vars = append(a.vars, api.Field{Name: name, Type: t})
	a.locals++
	return name
}

func (a *author) block(size, deep int) []api.Stmt {
	var l []api.Stmt
	seen := len(a.vars)
	for range a.d.Below(size + 1) {
		l = append(l, a.stmt(size/2, deep))
	}
	a.vars = a.vars[:seen:seen]
	return l
}

func (a *author) stmt(size, deep int) api.Stmt {
	switch n := a.d.Below(24); {
	case n < 6 && a.locals < api.MaxLocals:
		return a.variable()
	case n < 11:
		return a.set()
	case n < 14 && deep > 0:
		return a.branches(size, deep-1)
	case n < 17 && deep > 0:
		return a.loop(size, deep-1)
	case n < 20:
		return api.Stmt{Op: api.StTell, Exprs: []api.Expr{a.sure(api.TInt, 3)}}
	case n < 22:
		fn := a.d.Below(len(a.sigs))
		return api.Stmt{Op: api.StCall, Exprs: []api.Expr{a.call(fn, 2)}}
	case n == 22:
		return a.away()
	}
	return api.Stmt{Op: api.StTell, Exprs: []api.Expr{a.sure(api.TInt, 1)}}
}

func (a *author) variable() api.Stmt {
	t := a.stored()
	e := a.of(t, 3)
	return api.Stmt{Op: api.StVar, Of: a.word(t), Exprs: []api.Expr{e}, Name: a.see(t)}
}

func (a *author) set() api.Stmt {
	left := a.place()
	return api.Stmt{Op: api.StSet, Exprs: []api.Expr{left, a.of(left.Type, 3)}}
}

// place is where something may be put: a place of a row, if there is nothing else.
func (a *author) place() api.Expr {
	if t := a.stored(); a.d.Below(3) == 0 && len(a.fieldsOf(t)) > 0 {
		return a.field(t, 2)
	}
	if len(a.vars) > 0 && a.d.Below(4) > 0 {
		return named(pick(a.d, a.vars))
	}
	return a.at(2)
}

func (a *author) branches(size, deep int) api.Stmt {
	s := api.Stmt{Op: api.StIf, Exprs: []api.Expr{a.sure(api.TBool, 3)}, Body: a.block(size, deep)}
	if a.d.Below(2) == 0 {
		s.Else = a.block(size, deep)
	}
	return s
}

// loop is a while; one that counts up to a number, more often than not.
func (a *author) loop(size, deep int) api.Stmt {
	a.loops++
	defer func() { a.loops-- }()
	counter := a.names(api.TInt)
	if len(counter) == 0 || a.d.Below(4) == 0 {
		return api.Stmt{Op: api.StWhile, Exprs: []api.Expr{a.sure(api.TBool, 2)}, Body: a.block(size, deep)}
	}
	i := pick(a.d, counter)
	s := api.Stmt{Op: api.StWhile, Exprs: []api.Expr{two(api.ExLess, i, number(a.d.Below(9)), api.TBool)}}
	more := api.Stmt{Op: api.StSet, Exprs: []api.Expr{i, two(api.ExAdd, i, number(1+a.d.Below(3)), api.TInt)}}
	s.Body = append([]api.Stmt{more}, a.block(size, deep)...)
	return s
}

// away is a statement behind which its block does not go on.
func (a *author) away() api.Stmt {
	switch n := a.d.Below(6); {
	case n < 2 && a.loops > 0:
		return api.Stmt{Op: api.StBreak}
	case n < 4 && a.loops > 0:
		return api.Stmt{Op: api.StContinue}
	case n < 5:
		return a.back()
	}
	return api.Stmt{Op: api.StFail, Num: a.d.Below(201)}
}

func (a *author) back() api.Stmt {
	if a.result == api.TTop {
		return api.Stmt{Op: api.StReturn}
	}
	return api.Stmt{Op: api.StReturn, Exprs: []api.Expr{a.of(a.result, 3)}}
}
