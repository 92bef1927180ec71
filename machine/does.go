package machine

import (
	"proviso/api"
	"proviso/code"
)

// do does an instruction of which all is as it wants.
func (r *run) do(in api.Instr) {
	c := r.inner()
	c.at += code.Size(in.Op)
	switch in.Op {
	case api.OpNop:
	case api.OpInt:
		c.push(value{number, in.A})
	case api.OpBool:
		c.push(value{truth, in.A})
	case api.OpNull:
		c.push(value{reference, 0})
	case api.OpLoad:
		c.push(c.slots[in.A])
	case api.OpStore:
		c.slots[in.A] = c.pop()
	case api.OpPop:
		c.pop()
	case api.OpDup:
		c.push(c.top(1)[0])
	case api.OpSwap:
		l := c.top(2)
		l[0], l[1] = l[1], l[0]
	case api.OpJump:
		c.at = in.A
	case api.OpUnless:
		if c.pop().n == 0 {
			c.at = in.A
		}
	case api.OpCall:
		r.enter(in.A)
	case api.OpReturn:
		r.leave()
	case api.OpTrap:
		r.trap(api.TrapOwn + in.A)
	case api.OpTell:
		r.tell(c.pop().n)
	case api.OpNeg:
		c.push(value{number, wrapped(-c.pop().n)})
	case api.OpNot:
		c.push(truthOf(c.pop().n == 0))
	case api.OpLess, api.OpSame, api.OpIs:
		b, a := c.pop().n, c.pop().n
		c.push(truthOf(a < b && in.Op == api.OpLess || a == b && in.Op != api.OpLess))
	case api.OpAdd, api.OpSub, api.OpMul, api.OpDiv, api.OpRem:
		r.reckon(in.Op)
	default:
		r.touch(in)
	}
}

// wrapped is a number taken round into 32 bits.
func wrapped(n int) int { return int(int32(n)) }

func truthOf(is bool) value {
	if is {
		return value{truth, 1}
	}
	return value{truth, 0}
}

func (r *run) reckon(op byte) {
	c := r.inner()
	b, a := c.pop().n, c.pop().n
	n := 0
	switch {
	case op == api.OpAdd:
		n = a + b
	case op == api.OpSub:
		n = a - b
	case op == api.OpMul:
		n = a * b
	case b == 0:
		r.trap(api.TrapDivide)
		return
	case op == api.OpDiv:
		n = a / b
	case op == api.OpRem:
		n = a % b
	}
	c.push(value{number, wrapped(n)})
}

// enter begins a call of a function with what lies on top of the stack.
func (r *run) enter(fn int) {
	if len(r.calls) == api.MaxDepth {
		r.trap(api.TrapDepth)
		return
	}
	around, f := r.inner(), r.funcs[fn]
	next := call{fn: fn, locals: f.Locals}
	params := len(f.Sig.Params)
	copy(next.slots[:], around.top(params))
	around.height -= params
	r.calls = append(r.calls, next)
}

// leave ends a call: its value goes to the one around it, or is what the run comes to.
func (r *run) leave() {
	c, around := r.inner(), len(r.calls)-1
	gives := r.gives(c.fn)
	var v value
	if gives {
		v = c.pop()
	}
	if around == 0 {
		r.end(api.OK)
		r.came.Result = v.n
		return
	}
	r.calls = r.calls[:around]
	if gives {
		r.inner().push(v)
	}
}

// gives tells whether a function has a result.
func (r *run) gives(fn int) bool { return r.funcs[fn].Sig.Result != api.TTop }

func (r *run) tell(n int) {
	if len(r.came.Told) == api.MaxTold {
		r.trap(api.TrapTold)
		return
	}
	r.came.Told = append(r.came.Told, n)
}
