package samples

import (
	"slices"

	"proviso/api"
	"proviso/code"
	"proviso/frames"
	"proviso/step"
)

// Anything is bytes that are instructions for the most part; operands are small.
func Anything(d *Dice, n int) []byte {
	var b []byte
	for len(b) < n {
		in := api.Instr{Op: byte(d.Below(34))}
		switch d.Below(8) {
		case 0:
			in.Op = []byte{api.OpJump, api.OpUnless}[d.Below(2)]
		case 1:
			in.Op = []byte{api.OpInt, api.OpBool, api.OpNull}[d.Below(3)]
		}
		switch {
		case code.Jumps(in.Op):
			in.A = d.Below(n + 2)
		case code.Size(in.Op) > 1:
			in.A = d.Below(2)
		}
		x, _ := code.Encode(in)
		b = append(b, x...)
	}
	if d.Below(4) == 0 {
		b[d.Below(len(b))] = byte(d.Below(256))
	}
	return b
}

// Turned is code with a few of its bytes turned, cut now and then.
func Turned(d *Dice, b []byte) []byte {
	b = slices.Clone(b)
	for range 1 + d.Below(3) {
		if len(b) > 0 {
			b[d.Below(len(b))] = byte(d.Below(40))
		}
	}
	if d.Below(10) == 0 {
		b = b[:d.Below(len(b)+1)]
	}
	return b
}

// Sound is code that infer takes more often than not, with so many instructions, and a trap.
func Sound(d *Dice, e api.Env, locals, n int) []byte {
	start, _ := frames.Start(e.Classes, e.Sigs[e.Fn].Params, locals)
	w := &walker{d: d, e: e, now: start, frames: map[int]api.Frame{}}
	for range 40 * n {
		if len(w.l) == n {
			break
		}
		w.some()
	}
	w.put(api.Instr{Op: api.OpTrap, A: 7})
	w.lead()
	for i, in := range w.l { // operands that the instruction has not are noughts in its bytes
		if code.Size(in.Op) == 1 {
			w.l[i].A = 0
		}
		if in.Op != api.OpGet && in.Op != api.OpPut {
			w.l[i].B = 0
		}
	}
	b, _, _ := code.All(w.l)
	return b
}

// walker lays instructions one behind another, each of which can be applied, from a frame on; which frame stands where is kept, for jumps to lead there.
type walker struct {
	d      *Dice
	e      api.Env
	now    api.Frame
	frames map[int]api.Frame
	at     []int // all addresses, rising
	size   int
	jumps  []int // places in l
	l      []api.Instr
}

func (w *walker) put(in api.Instr) {
	f, why := step.Apply(w.e, w.now, in)
	if why != api.OK {
		return
	}
	in.At = w.size
	w.frames[w.size], w.at = w.now, append(w.at, w.size)
	if code.Jumps(in.Op) {
		w.jumps = append(w.jumps, len(w.l))
	}
	w.l, w.now, w.size = append(w.l, in), f, w.size+code.Size(in.Op)
	if code.Ends(in.Op) { // what stands behind is come to by a jump alone: from somewhere with such a frame
		w.now = w.frames[w.at[w.d.Below(len(w.at))]]
	}
}

// some puts an instruction, as the dice fall; those that end more seldom.
func (w *walker) some() {
	in := api.Instr{Op: byte(w.d.Below(34)), A: w.d.Below(4), B: w.d.Below(3)}
	switch w.d.Below(10) {
	case 0, 1:
		in.Op = api.OpBool
	case 2:
		in.Op = api.OpStore
	case 3:
		in.Op = api.OpUnless
	}
	if in.Op == api.OpBool {
		in.A %= 2
	}
	if (in.Op == api.OpReturn || in.Op == api.OpTrap) && w.d.Below(4) > 0 {
		return
	}
	w.put(in)
}

// lead gives the jumps their targets: places of the same height as theirs behind them.
func (w *walker) lead() {
	for _, i := range w.jumps {
		f, _ := step.Apply(w.e, w.frames[w.l[i].At], w.l[i])
		for range 30 {
			w.l[i].A = w.at[w.d.Below(len(w.at))]
			if g := w.frames[w.l[i].A]; g.Height == f.Height && (w.d.Below(4) == 0 || frames.Sub(w.e.Classes, f, g)) {
				break
			}
		}
	}
}
