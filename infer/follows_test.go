package infer_test

import (
	"bytes"
	"maps"
	"slices"
	"testing"

	"proviso/api"
	"proviso/cert"
	"proviso/code"
	"proviso/flow"
	"proviso/frames"
	"proviso/infer"
	"proviso/samples"
	"proviso/step"
	"proviso/types"
)

// byAddress is entries' frames.
func byAddress(l []api.Entry) map[int]api.Frame {
	has := map[int]api.Frame{}
	for _, x := range l {
		has[x.At] = x.Frame
	}
	return has
}

// holds is P8.6, word by word: whether it holds of some frames.
func holds(x function, has map[int]api.Frame) bool {
	start, _ := frames.Start(x.e.Classes, x.e.Sigs[x.e.Fn].Params, x.locals)
	if !frames.Sub(x.e.Classes, start, has[0]) {
		return false
	}
	for at, f := range has {
		in, why := code.Decode(x.b, at)
		if why != api.OK {
			return false
		}
		g, why := step.Apply(x.e, f, in)
		if why != api.OK {
			return false
		}
		on, why := goesOn(in, len(x.b))
		if why != api.OK {
			return false
		}
		for _, to := range on {
			if h, is := has[to]; !is || !frames.Sub(x.e.Classes, g, h) {
				return false
			}
		}
	}
	return true
}

func TestP8_6AFixpoint(t *testing.T) {
	for x, l := range taken(t, 61, 4000) {
		if has := byAddress(l); len(has) != len(l) || !holds(x, has) {
			t.Fatal(x.b, l)
		}
		for i, y := range l {
			if y.Dead || i > 0 && y.At <= l[i-1].At {
				t.Fatal("not rising", l)
			}
		}
	}
}

// TestP8_7TheLeastOne goes round from frames that know less, here and there: where that comes to an end, it is other frames of which P8.6 holds.
func TestP8_7TheLeastOne(t *testing.T) {
	d, others, unlike := dice(67), 0, 0
	for x, l := range taken(t, 71, 4000) {
		least := byAddress(l)
		other := maps.Clone(least)
		for range 1 + d.Below(4) {
			at := l[d.Below(len(l))].At
			other[at] = samples.Above(&d, x.e.Classes, other[at])
		}
		if _, why := rounds(x.e, x.b, other); why != api.OK {
			continue
		}
		if !holds(x, other) {
			t.Fatal("the other frames are none of which it holds")
		}
		others++
		if !maps.Equal(least, other) {
			unlike++
		}
		for at, f := range least {
			if g, is := other[at]; !is || !frames.Sub(x.e.Classes, f, g) {
				t.Fatal(x.b, at, f, g)
			}
		}
	}
	if others < 500 || unlike < 200 {
		t.Error("few others", others, unlike)
	}
}

func TestP8_8Reached(t *testing.T) {
	came := 0
	for x, l := range taken(t, 73, 4000) {
		if _, why := flow.Check(x.b); why != api.OK {
			continue
		}
		came++
		ins, _, _ := flow.Scan(x.b)
		if want := flow.Reach(ins, 0); !slices.EqualFunc(l, want, func(x api.Entry, at int) bool { return x.At == at }) {
			t.Fatal(x.b, l, want)
		}
	}
	if came < 500 {
		t.Error("few", came)
	}
}

func TestP8_9FewEntries(t *testing.T) {
	bare := 0
	for x, l := range taken(t, 79, 4000) {
		p, _, why := infer.Emit(x.e, x.locals, x.b)
		c, _, bad := cert.Decode(p)
		if why != api.OK || bad != api.OK {
			t.Fatal(x.b, why, bad)
		}
		var ins []api.Instr
		for _, y := range l {
			in, _ := code.Decode(x.b, y.At)
			ins = append(ins, in)
		}
		places := append(flow.Targets(ins), flow.Behind(ins)...)
		for _, y := range c.Entries {
			if !slices.Contains(places, y.At) {
				t.Fatal(x.b, y)
			}
		}
		if len(c.Entries) > len(places) {
			t.Fatal(x.b, c)
		}
		if len(places) == 1 && places[0] == len(x.b) {
			bare++
			if len(p) != cert.HeaderBytes {
				t.Fatal(x.b, p)
			}
		}
	}
	if bare < 20 {
		t.Error("few without an entry", bare)
	}
}

func TestP8_10WhatIsNotReached(t *testing.T) {
	d, came := dice(83), 0
	for x, l := range taken(t, 89, 4000) {
		reached := make([]int, len(x.b))
		for _, y := range l {
			for i := range code.Size(x.b[y.At]) {
				reached[y.At+i] = 1
			}
		}
		if !slices.Contains(reached, 0) {
			continue
		}
		came++
		p, _, _ := infer.Emit(x.e, x.locals, x.b)
		other := bytes.Clone(x.b)
		for i := range other {
			if reached[i] == 0 && d.Below(3) > 0 {
				other[i] = byte(d.Below(256))
			}
		}
		if m, at, why := infer.Infer(x.e, x.locals, other); !slices.Equal(m, l) || at != 0 || why != api.OK {
			t.Fatal(x.b, other, m, at, why)
		}
		if q, at, why := infer.Emit(x.e, x.locals, other); !bytes.Equal(p, q) || at != 0 || why != api.OK {
			t.Fatal(x.b, other, q, at, why)
		}
	}
	if came < 200 {
		t.Error("few", came)
	}
}

func TestP8_11LessKnownNoMore(t *testing.T) {
	d, came, unlike := dice(97), 0, 0
	for x, l := range taken(t, 101, 8000) {
		lower := x
		lower.e = samples.World(x.e.Fn)
		params := lower.e.Sigs[x.e.Fn].Params
		for i, p := range params {
			if q := samples.Valids(x.e.Classes)[1+d.Below(9)]; types.Sub(x.e.Classes, q, p) && q != api.TNull {
				params[i] = q
			}
		}
		m, _, why := infer.Infer(lower.e, lower.locals, lower.b)
		if why != api.OK {
			continue
		}
		came++
		if !slices.Equal(l, m) {
			unlike++
		}
		if len(m) != len(l) {
			t.Fatal(x.b, l, m)
		}
		for i := range m {
			if m[i].At != l[i].At || !frames.Sub(x.e.Classes, m[i].Frame, l[i].Frame) {
				t.Fatal(x.b, l[i], m[i])
			}
		}
	}
	if came < 1000 || unlike < 200 {
		t.Error("few", came, unlike)
	}
}
