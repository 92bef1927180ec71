package onepass_test

import (
	"slices"
	"testing"

	"proviso/api"
	"proviso/cert"
	"proviso/code"
	"proviso/frames"
	"proviso/infer"
	"proviso/onepass"
	"proviso/samples"
)

type dice = samples.Dice

const (
	shape = samples.Shape
	disc  = samples.Disc
	box   = samples.Box
)

// of is a frame whose entries are these; the first so many are its locals.
func of(locals int, entries ...api.Type) api.Frame { return samples.Frame(locals, entries...) }

// bytesOf is the code of instructions.
func bytesOf(t *testing.T, l ...api.Instr) []byte {
	t.Helper()
	b, _, e := code.All(l)
	if e != api.OK {
		t.Fatal(l, e)
	}
	return b
}

// spoil writes over all of a list, its spare room too.
func spoil[T any](l []T, with T) {
	l = l[:cap(l)]
	for i := range l {
		l[i] = with
	}
}

// function is code where it stands, with its certificate.
type function struct {
	e        api.Env
	locals   int
	b, proof []byte
}

// proofOf is the bytes of a certificate that may be.
func proofOf(t *testing.T, locals int, l ...api.Entry) []byte {
	t.Helper()
	p, e := cert.Encode(api.Cert{Locals: locals, Entries: l})
	if e != api.OK {
		t.Fatal(l, e)
	}
	return p
}

// proved is code that infer takes more often than not, with the certificate that it emits; else with one of few entries.
func proved(d *dice) function {
	x := function{e: samples.World(d.Below(4)), locals: 3 + d.Below(3)}
	x.b = samples.Sound(d, x.e, x.locals, 1+d.Below(30))
	if p, _, why := infer.Emit(x.e, x.locals, x.b); why == api.OK {
		x.proof = p
		return x
	}
	c := api.Cert{Locals: x.locals}
	for at := range x.b {
		if d.Below(8) == 0 {
			c.Entries = append(c.Entries, someEntry(d, x, at))
		}
	}
	x.proof, _ = cert.Encode(c)
	return x
}

// someEntry is one with a frame of few entries of the stack, or a dead one.
func someEntry(d *dice, x function, at int) api.Entry {
	if d.Below(3) == 0 {
		return api.Entry{At: at, Dead: true}
	}
	f, _ := frames.Start(x.e.Classes, x.e.Sigs[x.e.Fn].Params, x.locals)
	for range d.Below(3) {
		f, _ = frames.Push(f, samples.Valids(x.e.Classes)[d.Below(10)])
	}
	return api.Entry{At: at, Frame: samples.Above(d, x.e.Classes, f)}
}

// bent is a certificate that says otherwise here and there.
func bent(d *dice, x function) []byte {
	c, _, _ := cert.Decode(x.proof)
	for range 1 + d.Below(2) {
		n := len(c.Entries)
		if n == 0 || d.Below(6) == 0 {
			c.Entries = append(c.Entries, someEntry(d, x, d.Below(len(x.b)+2)))
			continue
		}
		y := &c.Entries[d.Below(n)]
		switch d.Below(8) {
		case 0:
			*y = c.Entries[n-1]
			c.Entries = c.Entries[:n-1]
		case 1:
			*y = api.Entry{At: y.At, Dead: true}
		case 2:
			*y = someEntry(d, x, y.At)
		case 3:
			y.At += d.Below(5) - 2
		case 4:
			y.Frame.Slots[d.Below(x.locals)] = api.Type(d.Below(50))
		default:
			if !y.Dead {
				y.Frame = samples.Above(d, x.e.Classes, y.Frame)
			}
		}
	}
	slices.SortFunc(c.Entries, func(a, b api.Entry) int { return a.At - b.At })
	p, why := cert.Encode(c)
	if why != api.OK {
		return x.proof
	}
	return p
}

// someCode is functions of all kinds, with certificates of all kinds: sound ones, some with bytes turned.
func someCode(seed dice, n int) []function {
	d := seed
	var all []function
	for range n {
		x := proved(&d)
		switch d.Below(8) {
		case 0:
			x.b = samples.Turned(&d, x.b)
		case 1:
			x.b = samples.Anything(&d, 1+d.Below(20))
			x.proof = bent(&d, x)
		case 2:
			x.proof = samples.Turned(&d, x.proof)
		case 3, 4, 5:
			x.proof = bent(&d, x)
		}
		all = append(all, x)
	}
	return all
}

// taken yields those of some functions that Check takes, with what it did.
func taken(t *testing.T, seed dice, n int) func(yield func(x function, g api.Ghost) bool) {
	return func(yield func(x function, g api.Ghost) bool) {
		came := 0
		for _, x := range someCode(seed, n) {
			g, _, why := onepass.Check(x.e, x.locals, x.b, x.proof)
			if why != api.OK {
				continue
			}
			came++
			if !yield(x, g) {
				return
			}
		}
		if came < n/4 {
			t.Error("few are taken:", came, "of", n)
		}
	}
}
