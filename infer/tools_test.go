package infer_test

import (
	"math"
	"slices"
	"strconv"
	"testing"

	"proviso/api"
	"proviso/code"
	"proviso/frames"
	"proviso/step"
	"proviso/types"
)

// dice throws the same numbers at every run.
type dice uint64

func (d *dice) below(n int) int {
	*d = *d*6364136223846793005 + 1442695040888963407
	return int(uint64(*d) >> 33 % uint64(n))
}

const (
	shape = api.TClass
	disc  = api.TClass + 1
	box   = api.TClass + 2
	list  = api.TClass + 3
)

// shapes is the table T of chapter 2.
func shapes() []api.Class {
	return []api.Class{
		{Name: "shape", Parent: -1, Fields: []api.Field{{Name: "x", Type: api.TInt}}},
		{Name: "disc", Parent: 0, Fields: []api.Field{{Name: "r", Type: api.TInt}}},
		{Name: "box", Parent: 0, Fields: []api.Field{{Name: "w", Type: api.TInt}, {Name: "in", Type: api.TAny}}},
		{Name: "list", Parent: -1, Fields: []api.Field{{Name: "next", Type: list}}},
	}
}

// chain is n classes, each the parent of the next one.
func chain(n int) []api.Class {
	var l []api.Class
	for c := range n {
		l = append(l, api.Class{Name: "c" + strconv.Itoa(c), Parent: c - 1})
	}
	return l
}

// valids are the valid types of a table.
func valids(l []api.Class) []api.Type {
	all := []api.Type{api.TTop, api.TInt, api.TBool, api.TNull, api.TInts, api.TAny}
	for c := range l {
		all = append(all, api.TClass+api.Type(c))
	}
	return all
}

// of is a frame whose entries are these; the first so many are its locals.
func of(locals int, entries ...api.Type) api.Frame {
	f := api.Frame{Locals: locals, Height: len(entries) - locals}
	copy(f.Slots[:], entries)
	return f
}

// above is a frame that f is of: each of its entries stays, or is one that it is of.
func above(d *dice, l []api.Class, f api.Frame) api.Frame {
	all := valids(l)
	for i := range f.Locals + f.Height {
		if t := all[d.below(len(all))]; types.Sub(l, f.Slots[i], t) {
			f.Slots[i] = t
		}
	}
	return f
}

// one is the environment of the chapter's examples.
func one() api.Env { return api.Env{Sigs: []api.Sig{{}}} }

// world is an environment over the table T.
func world(fn int) api.Env {
	return api.Env{Classes: shapes(), Fn: fn, Sigs: []api.Sig{
		{},
		{Params: []api.Type{disc, api.TInt}, Result: api.TInt},
		{Params: []api.Type{api.TAny, api.TBool}, Result: shape},
		{Params: []api.Type{shape, box, list}},
	}}
}

// bytesOf is the code of instructions.
func bytesOf(t *testing.T, l ...api.Instr) []byte {
	t.Helper()
	b, _, e := code.All(l)
	if e != api.OK {
		t.Fatal(l, e)
	}
	return b
}

// huge are numbers out of all ranges, and their ends.
func huge() []int {
	return []int{math.MinInt, math.MinInt + 1, math.MinInt32, -65536, -2, -1, 0, 1, 2, 3, 15, 16, 17, 63, 64, 65, 4095, 4096, 4097, 65536, math.MaxInt32, 1 << 32, math.MaxInt - 1, math.MaxInt}
}

// anything is bytes that are instructions for the most part; operands are small.
func anything(d *dice, n int) []byte {
	var b []byte
	for len(b) < n {
		in := api.Instr{Op: byte(d.below(34))}
		switch d.below(8) {
		case 0:
			in.Op = []byte{api.OpJump, api.OpUnless}[d.below(2)]
		case 1:
			in.Op = []byte{api.OpInt, api.OpBool, api.OpNull}[d.below(3)]
		}
		switch {
		case code.Jumps(in.Op):
			in.A = d.below(n + 2)
		case in.Op == api.OpBool || code.Size(in.Op) > 1:
			in.A = d.below(2)
		}
		x, _ := code.Encode(in)
		b = append(b, x...)
	}
	if d.below(4) == 0 {
		b[d.below(len(b))] = byte(d.below(256))
	}
	return b
}

// walker lays instructions one behind another, each of which can be applied, from a frame on; which frame stands where is kept, for jumps to lead there.
type walker struct {
	d      *dice
	e      api.Env
	now    api.Frame
	frames map[int]api.Frame
	at     []int // all addresses, rising
	size   int
	jumps  []int // places in l
	l      []api.Instr
}

func (w *walker) put(in api.Instr) bool {
	f, why := step.Apply(w.e, w.now, in)
	if why != api.OK {
		return false
	}
	in.At = w.size
	w.frames[w.size], w.at = w.now, append(w.at, w.size)
	if code.Jumps(in.Op) {
		w.jumps = append(w.jumps, len(w.l))
	}
	w.l, w.now, w.size = append(w.l, in), f, w.size+code.Size(in.Op)
	if code.Ends(in.Op) { // what stands behind is come to by a jump alone: from somewhere with such a frame
		w.now = w.frames[w.at[w.d.below(len(w.at))]]
	}
	return true
}

// some puts an instruction, as the dice fall; those that end, and those that make the stack higher, more seldom.
func (w *walker) some() {
	in := api.Instr{Op: byte(w.d.below(34)), A: w.d.below(4), B: w.d.below(3)}
	switch w.d.below(10) {
	case 0, 1:
		in.Op = api.OpBool
	case 2:
		in.Op = api.OpStore
	case 3:
		in.Op = api.OpUnless
	}
	if in.Op == api.OpBool {
		in.A %= 2
	}
	if in.Op == api.OpReturn || in.Op == api.OpTrap {
		if w.d.below(4) > 0 {
			return
		}
	}
	w.put(in)
}

// led gives the jumps their targets: places of the same height as theirs behind them.
func (w *walker) led() {
	for _, i := range w.jumps {
		f, _ := step.Apply(w.e, w.frames[w.l[i].At], w.l[i])
		for range 30 {
			w.l[i].A = w.at[w.d.below(len(w.at))]
			if g := w.frames[w.l[i].A]; g.Height == f.Height && (w.d.below(4) == 0 || frames.Sub(w.e.Classes, f, g)) {
				break
			}
		}
	}
}

// sound is code that infer takes more often than not, with so many instructions.
func sound(d *dice, e api.Env, locals, n int) []byte {
	start, _ := frames.Start(e.Classes, e.Sigs[e.Fn].Params, locals)
	w := &walker{d: d, e: e, now: start, frames: map[int]api.Frame{}}
	for range 40 * n {
		if len(w.l) == n {
			break
		}
		w.some()
	}
	w.put(api.Instr{Op: api.OpTrap, A: 7})
	w.led()
	for i := range w.l { // operands that the instruction has not are noughts in its bytes
		if !hasA(w.l[i].Op) {
			w.l[i].A = 0
		}
		if w.l[i].Op != api.OpGet && w.l[i].Op != api.OpPut {
			w.l[i].B = 0
		}
	}
	b, _, _ := code.All(w.l)
	return b
}

func hasA(op byte) bool { return code.Size(op) > 1 }

// turned is code with a few of its bytes turned.
func turned(d *dice, b []byte) []byte {
	b = slices.Clone(b)
	for range 1 + d.below(3) {
		if len(b) > 0 {
			b[d.below(len(b))] = byte(d.below(40))
		}
	}
	if d.below(10) == 0 {
		b = b[:d.below(len(b)+1)]
	}
	return b
}
