package machine

import "proviso/api"

// touch does an instruction that makes an object, or looks at one.
func (r *run) touch(in api.Instr) {
	c := r.inner()
	switch in.Op {
	case api.OpNew:
		ref, why := r.objects.Record(in.A)
		r.give(reference, ref, why)
	case api.OpMake:
		ref, why := r.objects.Row(c.pop().n)
		r.give(reference, ref, why)
	case api.OpGet:
		n, why := r.objects.Get(c.pop().n, in.B)
		r.give(kindOf(r.fields[in.A][in.B].Type), n, why)
	case api.OpPut:
		v, ref := c.pop().n, c.pop().n
		r.must(r.objects.Put(ref, in.B, v))
	case api.OpLen:
		n, why := r.objects.Len(c.pop().n)
		r.give(number, n, why)
	case api.OpAt:
		i, ref := c.pop().n, c.pop().n
		n, why := r.objects.Get(ref, i)
		r.give(number, n, why)
	case api.OpSet:
		v, i, ref := c.pop().n, c.pop().n, c.pop().n
		r.must(r.objects.Put(ref, i, v))
	case api.OpCast:
		if v := c.top(1)[0]; v.n != 0 && !r.isOf(v.n, in.A) {
			r.trap(api.TrapCast)
		}
	case api.OpTest:
		c.push(truthOf(r.isOf(c.pop().n, in.A)))
	}
}

// give puts on the stack what the objects have told, unless they have refused.
func (r *run) give(k kind, n int, why api.Errno) {
	if r.must(why) {
		r.inner().push(value{k, n})
	}
}

// must tells whether the objects have done what was asked; else the run ends. They tell ErrRange of a row's length alone: no other number here is out of range.
func (r *run) must(why api.Errno) bool {
	switch why {
	case api.OK:
		return true
	case api.ErrNull:
		r.trap(api.TrapNull)
	case api.ErrIndex:
		r.trap(api.TrapIndex)
	case api.ErrRange:
		r.trap(api.TrapSize)
	case api.ErrFull:
		r.trap(api.TrapRoom)
	default:
		r.end(api.ErrStuck)
	}
	return false
}
