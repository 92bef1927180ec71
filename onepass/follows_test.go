package onepass_test

import (
	"bytes"
	"slices"
	"testing"

	"proviso/api"
	"proviso/cert"
	"proviso/code"
	"proviso/frames"
	"proviso/infer"
	"proviso/onepass"
	"proviso/samples"
	"proviso/step"
	"proviso/types"
)

func TestP9_4Rising(t *testing.T) {
	for x, g := range taken(t, 19, 6000) {
		for i := 1; i < len(g.Fetched); i++ {
			if ahead := g.Fetched[i-1]; g.Fetched[i] < ahead+code.Size(x.b[ahead]) {
				t.Fatal(x.b, g)
			}
		}
		if len(g.Fetched) == 0 || g.Fetched[0] != 0 {
			t.Fatal("it begins elsewhere", x.b, g)
		}
	}
}

func TestP9_5FewComparisons(t *testing.T) {
	full := 0
	for x, g := range taken(t, 23, 6000) {
		most := 1
		for _, at := range g.Fetched {
			if !code.Ends(x.b[at]) {
				most++
			}
			if code.Jumps(x.b[at]) {
				most++
			}
		}
		if g.Compared > most {
			t.Fatal(x.b, g, most)
		}
		all := api.Cert{Locals: x.locals} // an entry wherever there may be one: as many comparisons as there may be
		l, _, _ := infer.Infer(x.e, x.locals, x.b)
		all.Entries = append(all.Entries, l...)
		c, _, _ := cert.Decode(x.proof)
		for _, y := range c.Entries {
			if y.Dead {
				all.Entries = append(all.Entries, y)
			}
		}
		slices.SortFunc(all.Entries, func(a, b api.Entry) int { return a.At - b.At })
		p, _ := cert.Encode(all)
		if g, _, why := onepass.Check(x.e, x.locals, x.b, p); why == api.OK {
			if g.Compared > most {
				t.Fatal(x.b, g, most)
			}
			if g.Compared == most {
				full++
			}
		}
	}
	if full < 200 {
		t.Error("few with all comparisons", full)
	}
}

// deadBytes is the addresses of the stretches that a certificate marks as dead.
func deadBytes(n int, entries []api.Entry) []int {
	var all []int
	for i, x := range entries {
		to := n
		if i+1 < len(entries) {
			to = entries[i+1].At
		}
		for at := x.At; x.Dead && at < to; at++ {
			all = append(all, at)
		}
	}
	return all
}

func TestP9_6ADeadStretchIsNotLookedAt(t *testing.T) {
	d, came := dice(29), 0
	for x, g := range taken(t, 31, 8000) {
		c, _, _ := cert.Decode(x.proof)
		places := deadBytes(len(x.b), c.Entries)
		if len(places) == 0 {
			continue
		}
		came++
		b := bytes.Clone(x.b)
		for _, at := range places {
			b[at] = byte(d.Below(256))
		}
		if h, at, why := onepass.Check(x.e, x.locals, b, x.proof); !sameGhost(g, h) || at != 0 || why != api.OK {
			t.Fatal(x.b, b, h, at, why)
		}
		onepass.Watch(x.e, x.locals, len(b), func(at int) byte {
			if slices.Contains(places, at) {
				t.Fatal("a byte of a dead stretch is fetched", x.b, at)
			}
			return b[at]
		}, x.proof)
	}
	if came < 500 {
		t.Error("few", came)
	}
}

// TestP9_7NoCertificateMakesGoodWhatIsNot is P3 of DOC.md.
func TestP9_7NoCertificateMakesGoodWhatIsNot(t *testing.T) {
	unlike := 0
	for x := range taken(t, 37, 30000) {
		l, at, why := infer.Infer(x.e, x.locals, x.b)
		if why != api.OK {
			t.Fatal("it is not inferred", x.b, x.proof, at, why)
		}
		c, _, _ := cert.Decode(x.proof)
		for _, y := range c.Entries {
			i := slices.IndexFunc(l, func(z api.Entry) bool { return z.At == y.At })
			if i < 0 || y.Dead {
				if i >= 0 {
					t.Fatal("it is reached, but dead", x.b, y)
				}
				continue
			}
			if !frames.Sub(x.e.Classes, l[i].Frame, y.Frame) {
				t.Fatal(x.b, l[i], y)
			}
			if l[i] != y {
				unlike++
			}
		}
	}
	if unlike < 400 {
		t.Error("few certificates that say less", unlike)
	}
}

// TestP9_7TheProducerIsNotTurnedAway is P2 of DOC.md, as far as infer goes.
func TestP9_7TheProducerIsNotTurnedAway(t *testing.T) {
	d, came := dice(41), 0
	for range 12000 {
		x := proved(&d)
		if d.Below(3) == 0 {
			x.b = samples.Turned(&d, x.b)
		}
		l, _, why := infer.Infer(x.e, x.locals, x.b)
		if why != api.OK {
			continue
		}
		came++
		p, _, _ := infer.Emit(x.e, x.locals, x.b)
		g, at, why := onepass.Check(x.e, x.locals, x.b, p)
		if at != 0 || why != api.OK {
			t.Fatal(x.b, p, at, why)
		}
		if !slices.EqualFunc(g.Fetched, l, func(at int, y api.Entry) bool { return at == y.At }) {
			t.Fatal("other instructions are fetched than are reached", x.b, g, l)
		}
	}
	if came < 4000 {
		t.Error("few", came)
	}
}

// narrowed is a frame of what may be there when code runs: each reference to an object of one class, to a row, or null.
func narrowed(d *dice, l []api.Class, f api.Frame) api.Frame {
	runs := append([]api.Type{api.TNull, api.TInts}, samples.Valids(l)[6:]...)
	for i := range f.Locals + f.Height {
		if !types.IsRef(f.Slots[i]) {
			continue
		}
		for {
			if t := runs[d.Below(len(runs))]; types.Sub(l, t, f.Slots[i]) {
				f.Slots[i] = t
				break
			}
		}
	}
	return f
}

// TestP9_7AcceptedCodeIsNeverStuck is P1 of DOC.md, with a run in which calls, fields and branches are what the dice say: each instruction finds what it wants.
func TestP9_7AcceptedCodeIsNeverStuck(t *testing.T) {
	d, steps := dice(43), 0
	for x := range taken(t, 47, 8000) {
		start, _ := frames.Start(x.e.Classes, x.e.Sigs[x.e.Fn].Params, x.locals)
		f, at := narrowed(&d, x.e.Classes, start), 0
		for range 60 {
			in, why := code.Decode(x.b, at)
			if why != api.OK {
				t.Fatal("no instruction", x.b, at, why)
			}
			g, why := step.Apply(x.e, f, in)
			if why != api.OK {
				t.Fatal("stuck", x.b, x.proof, at, f, why)
			}
			steps++
			f, at = narrowed(&d, x.e.Classes, g), at+code.Size(in.Op)
			if in.Op == api.OpReturn || in.Op == api.OpTrap {
				break
			}
			if in.Op == api.OpJump || in.Op == api.OpUnless && d.Below(2) == 0 {
				at = in.A
			}
		}
	}
	if steps < 30000 {
		t.Error("few", steps)
	}
}
