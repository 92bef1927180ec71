package onepass

import (
	"cmp"
	"slices"

	"proviso/api"
	"proviso/cert"
	"proviso/code"
	"proviso/frames"
	"proviso/step"
)

// pass is a check on its way through n bytes of code: at which place it is, and with which frame, if there is one (live).
type pass struct {
	e       api.Env
	n       int
	fetch   func(at int) byte
	entries []api.Entry
	place   int
	live    bool
	frame   api.Frame
	ghost   api.Ghost
	fault   api.Fault // what is told, if something panics: at first what is told of a fetch that does so by itself
}

// refuse gives the whole pass up; the face tells why.
func (p *pass) refuse(at int, why api.Errno) {
	p.fault = api.Fault{At: at, Why: why}
	panic(p.fault)
}

// must gives up, unless all is well.
func (p *pass) must(at int, why api.Errno) {
	if why != api.OK {
		p.refuse(at, why)
	}
}

// canBe tells whether an environment can be: no instruction takes anything in another one.
func canBe(e api.Env) bool {
	_, why := step.Takes(e, api.Instr{Op: api.OpNop})
	return why == api.OK
}

// begin looks at all that is known ahead of the first byte of code.
func (p *pass) begin(locals int, proof []byte) {
	if !canBe(p.e) {
		p.refuse(0, api.ErrArg)
	}
	start, why := frames.Start(p.e.Classes, p.e.Sigs[p.e.Fn].Params, locals)
	p.must(0, why)
	if p.n > api.MaxCode {
		p.refuse(0, api.ErrLong)
	}
	if p.n == 0 {
		p.refuse(0, api.ErrOff)
	}
	c, at, why := cert.Decode(proof)
	p.must(at, why)
	for _, x := range c.Entries {
		if frames.Check(p.e.Classes, x.Frame) != api.OK {
			p.refuse(x.At, api.ErrEntry)
		}
	}
	if c.Locals != locals {
		p.refuse(0, api.ErrShape)
	}
	p.entries, p.frame, p.live = c.Entries, start, true
}

// from is the entries of an address and of those behind it.
func (p *pass) from(at int) []api.Entry {
	i, _ := slices.BinarySearchFunc(p.entries, at, func(x api.Entry, at int) int { return cmp.Compare(x.At, at) })
	return p.entries[i:]
}

// entry is the one of an address.
func (p *pass) entry(at int) (api.Entry, bool) {
	if l := p.from(at); len(l) > 0 && l[0].At == at {
		return l[0], true
	}
	return api.Entry{}, false
}

// meet brings together what is known at the place and what its entry says.
func (p *pass) meet() {
	x, is := p.entry(p.place)
	switch {
	case p.live && is:
		p.hold(p.place, x)
		p.frame = x.Frame
	case p.live:
		// Nothing is said here: what is known stands as it is.
	case !is:
		p.refuse(p.place, api.ErrMissing)
	case x.Dead:
		p.skip()
	default:
		p.frame, p.live = x.Frame, true
	}
}

// hold holds the frame against an entry's; at is where it is told that they don't agree.
func (p *pass) hold(at int, x api.Entry) {
	if x.Dead {
		p.refuse(at, api.ErrDead)
	}
	p.ghost.Compared++
	if !frames.Sub(p.e.Classes, p.frame, x.Frame) {
		p.refuse(at, api.ErrMisfit)
	}
}

// skip leaves out a dead stretch: none of its bytes is asked for.
func (p *pass) skip() {
	next := p.n
	if l := p.from(p.place + 1); len(l) > 0 {
		next = min(next, l[0].At)
	}
	p.place = next
}

// follow takes the instruction at the place, and goes behind it.
func (p *pass) follow() {
	in := p.instruction()
	behind := in.At + code.Size(in.Op)
	if l := p.from(in.At + 1); len(l) > 0 && l[0].At < behind {
		p.refuse(l[0].At, api.ErrStray)
	}
	f, why := step.Apply(p.e, p.frame, in)
	p.must(in.At, why)
	p.frame = f
	if code.Jumps(in.Op) {
		p.jump(in)
	}
	p.live = !code.Ends(in.Op)
	if p.live && behind >= p.n {
		p.refuse(in.At, api.ErrOff)
	}
	p.place = behind
}

// instruction fetches the one at the place; operands that are not all there are not asked for.
func (p *pass) instruction() api.Instr {
	b := []byte{p.fetch(p.place)}
	if size := code.Size(b[0]); p.place+size <= p.n {
		for i := 1; i < size; i++ {
			b = append(b, p.fetch(p.place+i))
		}
	}
	in, why := code.Decode(b, 0)
	p.must(p.place, why)
	in.At = p.place
	p.ghost.Fetched = append(p.ghost.Fetched, in.At)
	return in
}

// jump holds the frame behind an instruction against what is said of where it leads.
func (p *pass) jump(in api.Instr) {
	if in.A >= p.n {
		p.refuse(in.At, api.ErrTarget)
	}
	x, is := p.entry(in.A)
	if !is {
		p.refuse(in.At, api.ErrMissing)
	}
	p.hold(in.At, x)
}

// end looks for entries that the code has no place for.
func (p *pass) end() {
	if l := p.from(p.n); len(l) > 0 {
		p.refuse(l[0].At, api.ErrStray)
	}
}
