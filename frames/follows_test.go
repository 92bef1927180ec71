package frames_test

import (
	"testing"

	"proviso/api"
	"proviso/frames"
	"proviso/types"
)

// everyFrame is all frames of a table with a local and a stack of one.
func everyFrame(l []api.Class) []api.Frame {
	var all []api.Frame
	for _, a := range valids(l) {
		for _, b := range valids(l) {
			all = append(all, of(1, a, b))
		}
	}
	return all
}

// small are tables over which all pairs and triples of frames can be gone through.
func small() [][]api.Class {
	return [][]api.Class{nil, {{Name: "p", Parent: -1}, {Name: "q", Parent: 0}}, {{Name: "p", Parent: -1}, {Name: "q", Parent: -1}}}
}

func TestP3_6AnOrder(t *testing.T) {
	for _, l := range small() {
		all := everyFrame(l)
		for _, a := range all {
			if !frames.Sub(l, a, a) {
				t.Fatal("not of itself", a)
			}
			for _, b := range all {
				if !frames.Sub(l, a, b) {
					continue
				}
				if a != b && frames.Sub(l, b, a) {
					t.Fatal("both ways", a, b)
				}
				for _, c := range all {
					if frames.Sub(l, b, c) && !frames.Sub(l, a, c) {
						t.Fatal("not on and on", a, b, c)
					}
				}
			}
		}
	}
}

func TestP3_6AnOrderOfAllShapes(t *testing.T) {
	d := dice(43)
	for locals, height := range everyShape {
		for _, l := range tables() {
			a := thrown(&d, l, locals, height)
			b := above(&d, l, a)
			c := above(&d, l, b)
			if !frames.Sub(l, a, a) || !frames.Sub(l, a, b) || !frames.Sub(l, b, c) || !frames.Sub(l, a, c) {
				t.Fatal("not of what is above", a, b, c)
			}
			if a != b && frames.Sub(l, b, a) {
				t.Fatal("both ways", a, b)
			}
		}
	}
}

func TestP3_7TheLeastAbove(t *testing.T) {
	for _, l := range small() {
		all := everyFrame(l)
		for _, a := range all {
			for _, b := range all {
				m, e := frames.Merge(l, a, b)
				if e != api.OK || !frames.Sub(l, a, m) || !frames.Sub(l, b, m) {
					t.Fatal("not above", a, b, m, e)
				}
				for _, c := range all {
					if frames.Sub(l, a, c) && frames.Sub(l, b, c) && !frames.Sub(l, m, c) {
						t.Fatal("not the least", a, b, m, c)
					}
				}
			}
		}
	}
}

func TestP3_7MergeOfItselfAndTheOtherWayRound(t *testing.T) {
	d := dice(47)
	for locals, height := range everyShape {
		for _, l := range tables() {
			a, b := thrown(&d, l, locals, height), thrown(&d, l, locals, height)
			if m, e := frames.Merge(l, a, a); e != api.OK || m != a {
				t.Fatal("of itself", a, m, e)
			}
			m, e := frames.Merge(l, a, b)
			n, f := frames.Merge(l, b, a)
			if e != api.OK || f != api.OK || m != n || !frames.Sub(l, a, m) || !frames.Sub(l, b, m) {
				t.Fatal("the other way round", a, b, m, n)
			}
			c := above(&d, l, m)
			if !frames.Sub(l, m, c) {
				t.Fatal("not of what both are of", a, b, c)
			}
		}
	}
}

func TestP3_8ItEnds(t *testing.T) {
	d := dice(53)
	most := api.MaxSlots * (api.MaxClasses + 2)
	for locals, height := range everyShape {
		for _, l := range tables() {
			a := thrown(&d, l, locals, height)
			b := above(&d, l, a)
			n, _ := frames.Rank(l, a)
			m, _ := frames.Rank(l, b)
			if n > most || a != b && m >= n || a == b && m != n {
				t.Fatal(a, b, n, m)
			}
		}
	}
	lowest := api.Frame{Locals: api.MaxLocals, Height: api.MaxSlots - api.MaxLocals}
	for i := range lowest.Slots {
		lowest.Slots[i] = api.TNull
	}
	if n, e := frames.Rank(chain(api.MaxClasses), lowest); e != api.OK || n != most {
		t.Error("the highest rank that there is", n, e)
	}
}

func TestTablesOfTheTestsMayBe(t *testing.T) {
	for i, l := range append(tables(), small()...) {
		if c, e := types.Check(l); e != api.OK {
			t.Error(i, c, e)
		}
	}
}

func TestExamplesOfChapter3(t *testing.T) {
	f, e := frames.Empty(2)
	prints(t, f, e, "[top top | ]")
	f, e = frames.Start(nil, []api.Type{api.TInt, api.TBool}, 3)
	prints(t, f, e, "[int bool top | ]")
	if _, e := frames.Top(f, 0); e != api.ErrUnder {
		t.Error("Top of an empty stack", e)
	}
	f, e = frames.Push(f, api.TInts)
	prints(t, f, e, "[int bool top | ints]")
	f, e = frames.Merge(nil, of(1, api.TInt, api.TNull), of(1, api.TBool, api.TInts))
	prints(t, f, e, "[top | ints]")
	if _, e := frames.Merge(nil, of(1, api.TInt), f); e != api.ErrShape {
		t.Error("unlike heights", e)
	}
}

func prints(t *testing.T, f api.Frame, e api.Errno, want string) {
	t.Helper()
	s, g := frames.Print(nil, f)
	if e != api.OK || g != api.OK || s != want {
		t.Errorf("%q, %v, %v; want %q", s, e, g, want)
	}
}
