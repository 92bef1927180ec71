package gen

import (
	"proviso/api"
	"proviso/code"
	"proviso/fault"
)

// writer lays a function's instructions one behind another. It gives up by panic with a fault.
type writer struct {
	list  []api.Instr
	here  int // the address at which the next one comes
	loops []loop
}

// place is an address to which jumps lead ahead of its being known: what is left to do to each of them is kept till then.
type place struct{ patches []func(at int) }

// put lays an instruction. Code that is too long is given up at once, since its jumps might lead farther than an operand goes.
func (w *writer) put(op byte, operands ...int) {
	var has [2]int
	copy(has[:], operands)
	in := api.Instr{At: w.here, Op: op, A: has[0], B: has[1]}
	w.list = append(w.list, in)
	w.here += code.Size(op)
	if w.here > api.MaxCode {
		fault.GiveUp(in.At, api.ErrLong)
	}
}

// ahead lays a jump to a place that is not known yet.
func (w *writer) ahead(op byte, to *place) {
	i := len(w.list)
	w.put(op)
	to.patches = append(to.patches, func(at int) { w.list[i].A = at })
}

// settle says that a place is here.
func (w *writer) settle(p *place) {
	for _, patch := range p.patches {
		patch(w.here)
	}
}

// bytes are those of all instructions; no jump waits any more.
func (w *writer) bytes() []byte {
	b, i, why := code.All(w.list)
	if why != api.OK {
		fault.GiveUp(w.list[i].At, why)
	}
	return b
}
