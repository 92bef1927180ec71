package frames_test

import (
	"math"
	"testing"

	"proviso/api"
	"proviso/frames"
)

// littered is a frame of a shape, with codes of every kind in all slots: those behind its entries too.
func littered(d *dice, locals, height int) api.Frame {
	f := api.Frame{Locals: locals, Height: height}
	for i := range f.Slots {
		f.Slots[i] = api.Type(1 + d.below(255))
	}
	return f
}

// cut is a frame without what stands behind its entries.
func cut(f api.Frame) api.Frame {
	g := api.Frame{Locals: f.Locals, Height: f.Height}
	for i := range f.Locals + f.Height {
		g.Slots[i] = f.Slots[i]
	}
	return g
}

func TestP3_4ShapeFirst(t *testing.T) {
	d := dice(17)
	for _, locals := range counts() {
		for _, height := range counts() {
			if shapeMayBe(locals, height) {
				continue
			}
			f := littered(&d, locals, height)
			if g, e := frames.Push(f, api.TInt); e != api.ErrShape || g != (api.Frame{}) {
				t.Error("Push", locals, height, g, e)
			}
			if g, u, e := frames.Pop(f); e != api.ErrShape || g != (api.Frame{}) || u != 0 {
				t.Error("Pop", locals, height, g, u, e)
			}
			for _, n := range []int{0, -1, 30, math.MinInt, math.MaxInt} {
				if u, e := frames.Top(f, n); e != api.ErrShape || u != 0 {
					t.Error("Top", locals, height, n, u, e)
				}
				if u, e := frames.Load(f, n); e != api.ErrShape || u != 0 {
					t.Error("Load", locals, height, n, u, e)
				}
				if g, e := frames.Store(f, n, api.TInt); e != api.ErrShape || g != (api.Frame{}) {
					t.Error("Store", locals, height, n, g, e)
				}
			}
		}
	}
}

func TestP3_4Push(t *testing.T) {
	d := dice(19)
	for locals, height := range everyShape {
		f := littered(&d, locals, height)
		for _, code := range []api.Type{api.TTop, api.TInt, 9, api.TClass, 255} {
			g, e := frames.Push(f, code)
			if locals+height == api.MaxSlots {
				if e != api.ErrOver || g != (api.Frame{}) {
					t.Error("full", locals, height, g, e)
				}
				continue
			}
			want := cut(f)
			want.Slots[locals+height] = code
			want.Height++
			if e != api.OK || g != want {
				t.Error(f, code, g, e)
			}
		}
	}
}

func TestP3_4Pop(t *testing.T) {
	d := dice(23)
	for locals, height := range everyShape {
		f := littered(&d, locals, height)
		g, code, e := frames.Pop(f)
		if height == 0 {
			if e != api.ErrUnder || g != (api.Frame{}) || code != 0 {
				t.Error("empty", locals, g, code, e)
			}
			continue
		}
		want := f
		want.Height--
		if e != api.OK || g != cut(want) || code != f.Slots[locals+height-1] {
			t.Error(f, g, code, e)
		}
	}
}

func TestP3_4Top(t *testing.T) {
	d := dice(29)
	for locals, height := range everyShape {
		f := littered(&d, locals, height)
		for n := range height {
			if code, e := frames.Top(f, n); e != api.OK || code != f.Slots[locals+height-1-n] {
				t.Error(f, n, code, e)
			}
		}
		for _, n := range []int{height, height + 1, height + locals, 24, 25, math.MaxInt} {
			if code, e := frames.Top(f, n); n >= height && (e != api.ErrUnder || code != 0) {
				t.Error(f, n, code, e)
			}
		}
		for _, n := range []int{-1, -2, -24, math.MinInt} {
			if code, e := frames.Top(f, n); e != api.ErrArg || code != 0 {
				t.Error(f, n, code, e)
			}
		}
	}
}

func TestP3_4LoadAndStore(t *testing.T) {
	d := dice(31)
	for locals, height := range everyShape {
		f := littered(&d, locals, height)
		for slot := range locals {
			if code, e := frames.Load(f, slot); e != api.OK || code != f.Slots[slot] {
				t.Error("Load", f, slot, code, e)
			}
			for _, code := range []api.Type{api.TTop, api.TBool, 9, 255} {
				want := cut(f)
				want.Slots[slot] = code
				if g, e := frames.Store(f, slot, code); e != api.OK || g != want {
					t.Error("Store", f, slot, code, g, e)
				}
			}
		}
		for _, slot := range []int{locals, locals + 1, locals + height, 24, 25, -1, -24, math.MinInt, math.MaxInt} {
			if slot >= 0 && slot < locals {
				continue
			}
			if code, e := frames.Load(f, slot); e != api.ErrSlot || code != 0 {
				t.Error("Load", f, slot, code, e)
			}
			if g, e := frames.Store(f, slot, api.TInt); e != api.ErrSlot || g != (api.Frame{}) {
				t.Error("Store", f, slot, g, e)
			}
		}
	}
}

func TestP3_9PopOfPush(t *testing.T) {
	d := dice(37)
	for locals, height := range everyShape {
		if locals+height == api.MaxSlots {
			continue
		}
		for _, l := range tables() {
			f, code := thrown(&d, l, locals, height), api.Type(d.below(256))
			g, _ := frames.Push(f, code)
			if top, e := frames.Top(g, 0); e != api.OK || top != code {
				t.Fatal(f, code, top, e)
			}
			if back, u, e := frames.Pop(g); e != api.OK || back != f || u != code {
				t.Fatal(f, code, back, u, e)
			}
		}
	}
}

func TestP3_9LoadOfStore(t *testing.T) {
	d := dice(41)
	for locals, height := range everyShape {
		for slot := range locals {
			f, code := thrown(&d, shapes(), locals, height), api.Type(d.below(256))
			g, _ := frames.Store(f, slot, code)
			if u, e := frames.Load(g, slot); e != api.OK || u != code {
				t.Fatal(f, slot, code, u, e)
			}
			if back, e := frames.Store(g, slot, f.Slots[slot]); e != api.OK || back != f {
				t.Fatal("another slot changed", f, slot, back, e)
			}
		}
	}
}
