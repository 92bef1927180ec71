package samples

import (
	"bytes"

	"proviso/api"
	"proviso/infer"
)

// Module is n functions over Shapes, f0, f1 and so on, that infer takes, with their certificates. The first one can be called from outside; so can some others.
func Module(d *Dice, n int) api.Module {
	m := api.Module{Name: "m", Classes: Shapes()}
	e := api.Env{Classes: m.Classes}
	for fn := range n {
		e.Sigs = append(e.Sigs, someSig(d, fn == 0 || d.Below(3) == 0))
	}
	for fn, s := range e.Sigs {
		e.Fn = fn
		f := api.Func{Name: numbered("f", fn), Sig: s, Locals: len(s.Params) + d.Below(5)}
		f.Code = taken(d, e, f.Locals)
		m.Funcs = append(m.Funcs, f)
	}
	m, _, _, _ = infer.Module(m)
	return m
}

// someSig is a signature over Shapes; its parameters are numbers and bools alone, if it is to be called from outside.
func someSig(d *Dice, outside bool) api.Sig {
	all := []api.Type{api.TInt, api.TBool, api.TInts, api.TAny, Shape, Disc, Box, List}
	s := api.Sig{Result: pick(d, append(all, api.TInt, api.TTop))}
	if outside {
		all = all[:2]
	}
	for range d.Below(4) {
		s.Params = append(s.Params, pick(d, all))
	}
	return s
}

// taken is sound code that infer takes; more often than not its last trap, if it is come to, is a return.
func taken(d *Dice, e api.Env, locals int) []byte {
	for range 50 {
		b := Sound(d, e, locals, 5+d.Below(40))
		l, _, why := infer.Infer(e, locals, b)
		if why != api.OK {
			continue
		}
		if last := l[len(l)-1]; last.At == len(b)-2 && d.Below(4) > 0 {
			b = append(b[:last.At:last.At], leaving(d, last.Frame.Height, e.Sigs[e.Fn].Result)...)
		}
		return b
	}
	return []byte{api.OpTrap, 9}
}

// leaving is code that takes all from the stack, and gives a result of a type.
func leaving(d *Dice, height int, result api.Type) []byte {
	b := bytes.Repeat([]byte{api.OpPop}, height)
	switch {
	case result == api.TInt:
		b = append(b, api.OpInt, 0, 0, 0, byte(d.Below(4)))
	case result == api.TBool:
		b = append(b, api.OpBool, byte(d.Below(2)))
	case result >= api.TClass && d.Below(3) > 0:
		b = append(b, api.OpNew, byte(result-api.TClass))
	case result != api.TTop:
		b = append(b, api.OpNull)
	}
	return append(b, api.OpReturn)
}
