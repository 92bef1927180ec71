package samples

import (
	"math"

	"proviso/api"
	"proviso/types"
)

func number(n int) api.Expr { return api.Expr{Op: api.ExInt, Num: n, Type: api.TInt} }

func named(v api.Field) api.Expr { return api.Expr{Op: api.ExName, Name: v.Name, Type: v.Type} }

func one(op int, e api.Expr, t api.Type) api.Expr {
	return api.Expr{Op: op, Kids: []api.Expr{e}, Type: t}
}

func two(op int, e, f api.Expr, t api.Type) api.Expr {
	return api.Expr{Op: op, Kids: []api.Expr{e, f}, Type: t}
}

// of is an expression of a type; its own Type is what check will say of it.
func (a *author) of(t api.Type, deep int) api.Expr {
	if types.IsRef(t) && a.d.Below(6) == 0 {
		return api.Expr{Op: api.ExNull, Type: api.TNull}
	}
	return a.sure(t, deep)
}

// sure is an expression of a type, and not the bare null.
func (a *author) sure(t api.Type, deep int) api.Expr {
	if l := a.names(t); len(l) > 0 && a.d.Below(3) > 0 {
		return pick(a.d, l)
	}
	if deep == 0 {
		return a.bare(t)
	}
	switch n := a.d.Below(8); {
	case n == 0 && len(a.fieldsOf(t)) > 0:
		return a.field(t, deep-1)
	case n == 1 && len(a.giving(t)) > 0:
		return a.call(pick(a.d, a.giving(t)), deep-1)
	case n < 7:
		return a.made(t, deep-1)
	}
	return a.bare(t)
}

// names are the variables of a type.
func (a *author) names(t api.Type) []api.Expr {
	var l []api.Expr
	for _, v := range a.vars {
		if types.Sub(a.classes, v.Type, t) {
			l = append(l, named(v))
		}
	}
	return l
}

// giving are the functions whose result is of a type.
func (a *author) giving(t api.Type) []int {
	var l []int
	for fn, s := range a.sigs {
		if s.Result != api.TTop && types.Sub(a.classes, s.Result, t) {
			l = append(l, fn)
		}
	}
	return l
}

func (a *author) call(fn, deep int) api.Expr {
	e := api.Expr{Op: api.ExCall, Name: numbered("f", fn), Type: a.sigs[fn].Result}
	for _, t := range a.sigs[fn].Params {
		e.Kids = append(e.Kids, a.of(t, deep))
	}
	return e
}

// member is a field of a class.
type member struct {
	class api.Type
	api.Field
}

// fieldsOf are the fields of a type.
func (a *author) fieldsOf(t api.Type) []member {
	var l []member
	for c := range a.classes {
		for _, f := range types.Fields(a.classes, c) {
			if types.Sub(a.classes, f.Type, t) {
				l = append(l, member{api.TClass + api.Type(c), f})
			}
		}
	}
	return l
}

func (a *author) field(t api.Type, deep int) api.Expr {
	f := pick(a.d, a.fieldsOf(t))
	e := one(api.ExField, a.sure(f.class, deep), f.Type)
	e.Name = f.Name
	return e
}

// at is a place of a row.
func (a *author) at(deep int) api.Expr {
	return two(api.ExAt, a.sure(api.TInts, deep), a.sure(api.TInt, deep), api.TInt)
}

// bare is an expression of a type that needs no other one; of a class below, of a reference.
func (a *author) bare(t api.Type) api.Expr {
	switch t {
	case api.TInt:
		return number(pick(a.d, []int{0, 1, 2, 3, 7, 100, math.MaxInt32, math.MinInt32}))
	case api.TBool:
		return api.Expr{Op: api.ExBool, Num: a.d.Below(2), Type: t}
	}
	l := a.below(t)
	if len(l) == 0 || t == api.TAny && a.d.Below(2) == 0 {
		return one(api.ExMake, number(a.d.Below(4)), api.TInts)
	}
	is := pick(a.d, l)
	return api.Expr{Op: api.ExNew, Name: a.word(is), Type: is}
}

// made is an expression of a type out of others.
func (a *author) made(t api.Type, deep int) api.Expr {
	switch t {
	case api.TInt:
		return a.reckoned(deep)
	case api.TBool:
		return a.asked(deep)
	case api.TInts:
		return one(api.ExMake, a.sure(api.TInt, deep), t)
	case api.TAny:
		return a.of(pick(a.d, append(a.below(t), api.TInts)), deep)
	}
	is := pick(a.d, a.below(t))
	e := one(api.ExAs, a.of(api.TAny, deep), is)
	e.Name = a.word(is)
	return e
}

func (a *author) reckoned(deep int) api.Expr {
	switch a.d.Below(6) {
	case 0:
		return one(api.ExNeg, a.sure(api.TInt, deep), api.TInt)
	case 1:
		return one(api.ExLen, a.sure(api.TInts, deep), api.TInt)
	case 2:
		return a.at(deep)
	}
	return two(api.ExMul+a.d.Below(5), a.sure(api.TInt, deep), a.sure(api.TInt, deep), api.TInt)
}

func (a *author) asked(deep int) api.Expr {
	switch a.d.Below(6) {
	case 0:
		return one(api.ExNot, a.sure(api.TBool, deep), api.TBool)
	case 1:
		return two(api.ExAnd+a.d.Below(2), a.sure(api.TBool, deep), a.sure(api.TBool, deep), api.TBool)
	case 2:
		return a.held(deep)
	case 3:
		if len(a.classes) > 0 {
			e := one(api.ExIs, a.of(api.TAny, deep), api.TBool)
			e.Name = a.word(pick(a.d, a.below(api.TAny)))
			return e
		}
	}
	return two(api.ExLess+a.d.Below(4), a.sure(api.TInt, deep), a.sure(api.TInt, deep), api.TBool)
}

// held is two things that may be the same.
func (a *author) held(deep int) api.Expr {
	t := a.stored()
	e, f := a.of(t, deep), a.of(t, deep)
	if !types.Sub(a.classes, e.Type, f.Type) && !types.Sub(a.classes, f.Type, e.Type) {
		f = api.Expr{Op: api.ExNull, Type: api.TNull}
	}
	return two(api.ExSame+a.d.Below(2), e, f, api.TBool)
}
