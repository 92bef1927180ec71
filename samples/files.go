package samples

import (
	"bytes"
	"math"
	"slices"

	"proviso/api"
	"proviso/gen"
	"proviso/infer"
	"proviso/module"
)

// File is the file of a module that was compiled, or made as the dice fall; turned more often than not.
func File(d *Dice) []byte {
	m := Module(d, 1+d.Below(4))
	if d.Below(3) == 0 {
		if c, err := gen.Compile("m", Source(d, 6)); err == nil && len(c.Funcs) > 0 {
			m, _, _, _ = infer.Module(c)
		}
	}
	for range d.Below(3) {
		m = Hostile(d, m)
	}
	b, _ := module.Encode(m)
	return b
}

// Hostile is a module with something of its code or of its certificates turned.
func Hostile(d *Dice, m api.Module) api.Module {
	m.Funcs, m.Certs = slices.Clone(m.Funcs), slices.Clone(m.Certs)
	fn := d.Below(len(m.Funcs))
	f := &m.Funcs[fn]
	switch d.Below(12) {
	case 0:
		m.Certs[fn] = Turned(d, m.Certs[fn])
	case 1:
		f.Locals = d.Below(17)
	case 2:
		f.Sig.Result = api.Type(d.Below(21))
	case 3:
		m.Certs[fn] = m.Certs[d.Below(len(m.Certs))]
	case 4:
		f.Code = Anything(d, 1+d.Below(20))
	case 5, 6:
		if len(f.Code) > 0 { // it may have been cut ahead
			f.Code = bytes.Clone(f.Code)
			f.Code[d.Below(len(f.Code))]++
		}
	default:
		f.Code = Turned(d, f.Code)
	}
	return m
}

// Args are such as a function takes from outside, if there are any.
func Args(d *Dice, s api.Sig) []int {
	var l []int
	for _, p := range s.Params {
		switch p {
		case api.TInt:
			l = append(l, pick(d, []int{0, 1, -1, 3, math.MaxInt32, math.MinInt32}))
		case api.TBool:
			l = append(l, d.Below(2))
		default:
			l = append(l, 0)
		}
	}
	return l
}
