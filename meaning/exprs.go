package meaning

import (
	"proviso/api"
	"proviso/types"
)

// rule is what an expression does of its own, once its operands (two at most) have their values.
type rule func(e *api.Expr, a, b int) int

// table is the rules of all expressions that have the values of all their operands first.
func (r *run) table() [api.NumEx]rule {
	return [api.NumEx]rule{
		api.ExInt: r.number, api.ExBool: r.number, api.ExNull: r.null, api.ExName: r.name,
		api.ExNeg: r.neg, api.ExNot: r.not,
		api.ExMul: r.mul, api.ExDiv: r.div, api.ExRem: r.rem, api.ExAdd: r.add, api.ExSub: r.sub,
		api.ExLess: r.less, api.ExMost: r.most, api.ExMore: r.more, api.ExLeast: r.least,
		api.ExSame: r.same, api.ExUnlike: r.unlike,
		api.ExNew: r.record, api.ExMake: r.row,
		api.ExField: r.field, api.ExAt: r.at, api.ExLen: r.length,
		api.ExAs: r.as, api.ExIs: r.is,
	}
}

func (r *run) expr(e *api.Expr) int {
	r.use()
	switch e.Op {
	case api.ExAnd, api.ExOr:
		return r.either(e)
	case api.ExCall:
		return r.called(e)
	}
	var v [2]int
	for i := range e.Kids {
		v[i] = r.expr(&e.Kids[i])
	}
	return r.rules[e.Op](e, v[0], v[1])
}

// either is the left one alone, if that tells what comes out.
func (r *run) either(e *api.Expr) int {
	left := r.expr(&e.Kids[0])
	if left == truth(e.Op == api.ExOr) {
		return left
	}
	return r.expr(&e.Kids[1])
}

func (r *run) called(e *api.Expr) int {
	args := make([]int, len(e.Kids))
	for i := range e.Kids {
		args[i] = r.expr(&e.Kids[i])
	}
	return r.call(e.Ref, args)
}

// wrapped is a number taken round into 32 bits.
func wrapped(n int) int { return int(int32(n)) }

// truth is a bool as a value.
func truth(is bool) int {
	if is {
		return 1
	}
	return 0
}

func (r *run) number(e *api.Expr, _, _ int) int { return e.Num }

func (r *run) null(*api.Expr, int, int) int { return 0 }

func (r *run) name(e *api.Expr, _, _ int) int { return r.vars[e.Ref] }

func (r *run) neg(_ *api.Expr, a, _ int) int { return wrapped(-a) }

func (r *run) not(_ *api.Expr, a, _ int) int { return truth(a == 0) }

func (r *run) mul(_ *api.Expr, a, b int) int { return wrapped(a * b) }

func (r *run) div(_ *api.Expr, a, b int) int {
	if b == 0 {
		r.trap(api.TrapDivide)
	}
	return wrapped(a / b)
}

func (r *run) rem(_ *api.Expr, a, b int) int {
	if b == 0 {
		r.trap(api.TrapDivide)
	}
	return a % b
}

func (r *run) add(_ *api.Expr, a, b int) int { return wrapped(a + b) }

func (r *run) sub(_ *api.Expr, a, b int) int { return wrapped(a - b) }

func (r *run) less(_ *api.Expr, a, b int) int { return truth(a < b) }

func (r *run) most(_ *api.Expr, a, b int) int { return truth(a <= b) }

func (r *run) more(_ *api.Expr, a, b int) int { return truth(a > b) }

func (r *run) least(_ *api.Expr, a, b int) int { return truth(a >= b) }

func (r *run) same(_ *api.Expr, a, b int) int { return truth(a == b) }

func (r *run) unlike(_ *api.Expr, a, b int) int { return truth(a != b) }

func (r *run) record(e *api.Expr, _, _ int) int {
	ref, why := r.objects.Record(e.Ref)
	r.must(why)
	return ref
}

func (r *run) row(_ *api.Expr, n, _ int) int {
	ref, why := r.objects.Row(n)
	r.must(why)
	return ref
}

func (r *run) field(e *api.Expr, ref, _ int) int { return r.at(e, ref, e.Ref) }

func (r *run) at(_ *api.Expr, ref, i int) int {
	v, why := r.objects.Get(ref, i)
	r.must(why)
	return v
}

func (r *run) length(_ *api.Expr, ref, _ int) int {
	n, why := r.objects.Len(ref)
	r.must(why)
	return n
}

func (r *run) as(e *api.Expr, ref, _ int) int {
	if ref != 0 && r.is(e, ref, 0) == 0 {
		r.trap(api.TrapCast)
	}
	return ref
}

// is: a row, and the reference to nothing, have no class.
func (r *run) is(e *api.Expr, ref, _ int) int {
	c, isRecord := r.objects.Class(ref)
	return truth(isRecord && types.Sub(r.classes, classType(c), classType(e.Ref)))
}

func classType(c int) api.Type { return api.TClass + api.Type(c) }
