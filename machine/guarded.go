package machine

import "proviso/api"

// guarded is a run that looks ahead of each step whether it finds what it wants.
type guarded struct {
	run
	takes [api.NumOps][]api.Type
}

func newGuarded(r run) *guarded { return &guarded{r, takes()} }

// takes are the types that an instruction takes whatever its operands and its function are, the last one from the top; of TTop every value is.
func takes() [api.NumOps][]api.Type {
	const top, integer, boolean, ints, ref = api.TTop, api.TInt, api.TBool, api.TInts, api.TAny
	return [api.NumOps][]api.Type{
		api.OpStore:  {top},
		api.OpPop:    {top},
		api.OpDup:    {top},
		api.OpSwap:   {top, top},
		api.OpAdd:    {integer, integer},
		api.OpSub:    {integer, integer},
		api.OpMul:    {integer, integer},
		api.OpDiv:    {integer, integer},
		api.OpRem:    {integer, integer},
		api.OpNeg:    {integer},
		api.OpLess:   {integer, integer},
		api.OpSame:   {top, top},
		api.OpNot:    {boolean},
		api.OpIs:     {ref, ref},
		api.OpUnless: {boolean},
		api.OpMake:   {integer},
		api.OpLen:    {ints},
		api.OpAt:     {ints, integer},
		api.OpSet:    {ints, integer, integer},
		api.OpCast:   {ref},
		api.OpTest:   {ref},
		api.OpTell:   {integer},
	}
}

func (g *guarded) step() {
	in, is := g.fetch()
	if !is || !g.names(in) || !g.finds(in) || !g.hasRoom(in) {
		g.end(api.ErrStuck)
		return
	}
	g.do(in)
}

// names tells whether what the operands name is there.
func (g *guarded) names(in api.Instr) bool {
	switch in.Op {
	case api.OpLoad, api.OpStore:
		return in.A < g.inner().locals
	case api.OpCall:
		return in.A < len(g.funcs)
	case api.OpNew, api.OpCast, api.OpTest:
		return in.A < len(g.fields)
	case api.OpGet, api.OpPut:
		return in.A < len(g.fields) && in.B < len(g.fields[in.A])
	}
	return true
}

// finds tells whether the values that an instruction takes, or loads, are there, and such as it wants.
func (g *guarded) finds(in api.Instr) bool {
	c, wants := g.inner(), g.wants(in)
	if c.height < len(wants) {
		return false
	}
	taken := c.top(len(wants))
	for i, t := range wants {
		if !g.isAs(taken[i], t) {
			return false
		}
	}
	switch in.Op {
	case api.OpLoad:
		return c.slots[in.A].kind != nothing
	case api.OpSame:
		return taken[0].kind == taken[1].kind && taken[0].kind != reference
	case api.OpReturn:
		return c.height == len(wants)
	}
	return true
}

// wants are the types that an instruction takes.
func (g *guarded) wants(in api.Instr) []api.Type {
	switch in.Op {
	case api.OpCall:
		return g.funcs[in.A].Sig.Params
	case api.OpReturn:
		if fn := g.inner().fn; g.gives(fn) {
			return []api.Type{g.funcs[fn].Sig.Result}
		}
		return nil
	case api.OpGet:
		return []api.Type{classType(in.A)}
	case api.OpPut:
		return []api.Type{classType(in.A), g.fields[in.A][in.B].Type}
	}
	return g.takes[in.Op]
}

// isAs tells whether a value is of a type.
func (g *guarded) isAs(v value, t api.Type) bool {
	switch {
	case t == api.TTop:
		return true
	case v.kind != kindOf(t):
		return false
	case t == api.TInts:
		_, isRecord := g.objects.Class(v.n)
		return !isRecord
	case t >= api.TClass:
		return v.n == 0 || g.isOf(v.n, int(t-api.TClass))
	}
	return true
}

// hasRoom tells whether there is room for what an instruction gives beyond what it takes. Of a return that is the call's around it: there its value comes to lie.
func (g *guarded) hasRoom(in api.Instr) bool {
	switch in.Op {
	case api.OpInt, api.OpBool, api.OpNull, api.OpLoad, api.OpDup, api.OpNew:
		return !g.inner().isFull()
	case api.OpReturn:
		around := len(g.calls) - 2
		return around < 0 || !g.gives(g.inner().fn) || !g.calls[around].isFull()
	}
	return true
}
