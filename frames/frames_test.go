package frames_test

import (
	"math"
	"reflect"
	"slices"
	"strings"
	"testing"

	"proviso/api"
	"proviso/frames"
	"proviso/types"
)

func TestP3_1Empty(t *testing.T) {
	for n := range 17 {
		if f, e := frames.Empty(n); e != api.OK || f != (api.Frame{Locals: n}) {
			t.Error(n, f, e)
		}
	}
	for _, n := range []int{-1, 17, 24, 25, -16, 256, math.MinInt, math.MaxInt} {
		if f, e := frames.Empty(n); e != api.ErrArg || f != (api.Frame{}) {
			t.Error(n, f, e)
		}
	}
}

func TestP3_1StartHasParamsThenTop(t *testing.T) {
	params := []api.Type{api.TInt, api.TBool, api.TInts, api.TAny, shape, disc, box, list}
	for n := range len(params) + 1 {
		for locals := n; locals <= api.MaxLocals; locals++ {
			want := api.Frame{Locals: locals}
			copy(want.Slots[:], params[:n])
			if f, e := frames.Start(shapes(), params[:n], locals); e != api.OK || f != want {
				t.Error(n, locals, f, e)
			}
		}
		for locals := range n {
			if f, e := frames.Start(shapes(), params[:n], locals); e != api.ErrArg || f != (api.Frame{}) {
				t.Error(n, "params,", locals, "locals", f, e)
			}
		}
	}
	for _, none := range [][]api.Type{nil, {}, params[:0]} {
		if f, e := frames.Start(nil, none, 0); e != api.OK || f != (api.Frame{}) {
			t.Error(f, e)
		}
	}
}

func TestP3_1StartRefuses(t *testing.T) {
	for _, locals := range []int{-1, 17, 24, 25, math.MinInt, math.MaxInt} {
		for _, n := range []int{0, 1, 8, 9} {
			if f, e := frames.Start(nil, slices.Repeat([]api.Type{api.TInt}, n), locals); e != api.ErrArg || f != (api.Frame{}) {
				t.Error(locals, n, f, e)
			}
		}
	}
	for _, n := range []int{9, 10, 16, 17, 24, 25, 1000} {
		for locals := range api.MaxLocals + 1 {
			if f, e := frames.Start(nil, slices.Repeat([]api.Type{api.TInt}, n), locals); e != api.ErrArg || f != (api.Frame{}) {
				t.Error(n, "params", locals, f, e)
			}
		}
	}
}

func TestP3_1StartTakesTypesOfValuesAlone(t *testing.T) {
	for _, l := range tables() {
		for c := range 256 {
			code := api.Type(c)
			good := code == api.TInt || code == api.TBool || code == api.TInts || code == api.TAny || c >= 16 && c-16 < len(l)
			for at := range api.MaxParams {
				params := slices.Repeat([]api.Type{api.TBool}, api.MaxParams)
				params[at] = code
				f, e := frames.Start(l, params, 9)
				if good && (e != api.OK || f.Slots[at] != code || f.Locals != 9) || !good && (e != api.ErrArg || f != (api.Frame{})) {
					t.Error(len(l), c, at, f, e)
				}
			}
		}
	}
}

func TestP3_2CheckOfShapes(t *testing.T) {
	for _, locals := range counts() {
		for _, height := range counts() {
			want := api.ErrShape
			if shapeMayBe(locals, height) {
				want = api.OK
			}
			if e := frames.Check(nil, api.Frame{Locals: locals, Height: height}); e != want {
				t.Error(locals, height, e)
			}
		}
	}
}

func TestP3_2CheckOfSlotsBehind(t *testing.T) {
	for locals, height := range everyShape {
		for at := range api.MaxSlots {
			f := api.Frame{Locals: locals, Height: height}
			f.Slots[at] = api.TInt
			want := api.OK
			if at >= locals+height {
				want = api.ErrShape
			}
			if e := frames.Check(nil, f); e != want {
				t.Error(locals, height, at, e)
			}
		}
	}
}

func TestP3_2CheckOfCodes(t *testing.T) {
	for _, l := range tables() {
		for c := range 256 {
			want := api.ErrType
			if c <= 5 || c >= 16 && c-16 < len(l) {
				want = api.OK
			}
			for at := range api.MaxSlots {
				f := api.Frame{Locals: 10, Height: 14}
				f.Slots[at] = api.Type(c)
				if e := frames.Check(l, f); e != want {
					t.Error(len(l), c, at, e)
				}
			}
		}
	}
}

func TestP3_2CheckTellsTheShapeFirst(t *testing.T) {
	f := of(1, 99, 99)
	if e := frames.Check(nil, f); e != api.ErrType {
		t.Error(e)
	}
	f.Slots[23] = 1
	if e := frames.Check(nil, f); e != api.ErrShape {
		t.Error("behind", e)
	}
	for _, g := range []api.Frame{{Locals: 17, Slots: f.Slots}, {Height: -1, Slots: f.Slots}, {Height: 25, Slots: f.Slots}, {Locals: -1, Height: 1, Slots: f.Slots}} {
		if e := frames.Check(nil, g); e != api.ErrShape {
			t.Error(g, e)
		}
	}
}

// isOf is the document's 'a frame is of another one', word by word.
func isOf(l []api.Class, a, b api.Frame) bool {
	if frames.Check(l, a) != api.OK || frames.Check(l, b) != api.OK || a.Locals != b.Locals || a.Height != b.Height {
		return false
	}
	for i := range a.Locals + a.Height {
		if !types.Sub(l, a.Slots[i], b.Slots[i]) {
			return false
		}
	}
	return true
}

func TestP3_2SubEntryByEntry(t *testing.T) {
	for _, l := range tables() {
		for _, a := range valids(l) {
			for _, b := range valids(l) {
				want := types.Sub(l, a, b)
				for at := range 4 {
					f, g := of(2, api.TInt, disc, api.TBool, api.TTop), of(2, api.TInt, disc, api.TBool, api.TTop)
					if len(l) < 2 {
						f.Slots[1], g.Slots[1] = api.TNull, api.TAny
					}
					f.Slots[at], g.Slots[at] = a, b
					if got := frames.Sub(l, f, g); got != want {
						t.Fatal(len(l), f, g, got)
					}
				}
			}
		}
	}
}

func TestP3_2SubHeldAgainstItsWords(t *testing.T) {
	d, both := dice(5), [2]int{}
	for range 20000 {
		l := tables()[d.below(6)]
		a := thrown(&d, l, d.below(4), d.below(4))
		b := thrown(&d, l, d.below(4), d.below(4))
		if d.below(2) == 0 {
			b = above(&d, l, a)
		}
		want := isOf(l, a, b)
		if want {
			both[1]++
		} else {
			both[0]++
		}
		if got := frames.Sub(l, a, b); got != want {
			t.Fatal(len(l), a, b, got)
		}
	}
	if both[0] < 1000 || both[1] < 1000 {
		t.Fatal("one answer is hardly asked for", both)
	}
}

func TestP3_2SubOfFramesThatCantBe(t *testing.T) {
	bad := []api.Frame{{Locals: -1}, {Locals: 17}, {Height: -1}, {Height: 25}, {Locals: 16, Height: 9}, {Height: math.MaxInt, Locals: 1}, of(1, 9), of(0, shape), {Slots: [24]api.Type{1}}}
	for _, f := range bad {
		if frames.Sub(nil, f, f) || frames.Sub(nil, f, api.Frame{}) || frames.Sub(nil, api.Frame{}, f) {
			t.Error(f)
		}
	}
	if frames.Sub(nil, of(1, api.TInt), of(0, api.TInt)) || frames.Sub(nil, of(0, api.TInt), of(1, api.TInt)) || frames.Sub(nil, of(1, api.TInt), of(1, api.TInt, api.TTop)) || frames.Sub(nil, of(1, api.TInt, api.TTop), of(1, api.TInt)) {
		t.Error("unlike shapes")
	}
	if !frames.Sub(nil, api.Frame{}, api.Frame{}) {
		t.Error("the zero frame can be")
	}
}

func TestP3_3MergeEntryByEntry(t *testing.T) {
	d := dice(7)
	for locals, height := range everyShape {
		for _, l := range tables() {
			a, b := thrown(&d, l, locals, height), thrown(&d, l, locals, height)
			want := api.Frame{Locals: locals, Height: height}
			for i := range locals + height {
				want.Slots[i] = types.Merge(l, a.Slots[i], b.Slots[i])
			}
			if got, e := frames.Merge(l, a, b); e != api.OK || got != want {
				t.Fatal(len(l), a, b, got, e)
			}
		}
	}
}

func TestP3_3MergeRefuses(t *testing.T) {
	good, noShape, noType := of(1, api.TInt, api.TBool), api.Frame{Locals: 17}, of(1, 9, api.TBool)
	behind := good
	behind.Slots[20] = api.TInt
	for _, x := range []struct {
		name string
		a, b api.Frame
		want api.Errno
	}{
		{"a's shape", noShape, good, api.ErrShape},
		{"b's shape", good, noShape, api.ErrShape},
		{"a's type", noType, good, api.ErrType},
		{"b's type", good, noType, api.ErrType},
		{"a's type ahead of b's shape", noType, noShape, api.ErrType},
		{"a's shape ahead of b's type", noShape, noType, api.ErrShape},
		{"behind a", behind, noType, api.ErrShape},
		{"behind b", good, behind, api.ErrShape},
		{"a's type ahead of unlike shapes", of(1, 9), good, api.ErrType},
		{"b's type ahead of unlike shapes", good, of(1, 9), api.ErrType},
		{"unlike locals", of(1, api.TInt), of(0, api.TInt), api.ErrShape},
		{"unlike heights", of(1, api.TInt), of(1, api.TInt, api.TInt), api.ErrShape},
		{"the same sum", of(2, api.TInt, api.TBool), good, api.ErrShape},
		{"one has nothing", api.Frame{}, of(1, api.TTop), api.ErrShape},
	} {
		if f, e := frames.Merge(nil, x.a, x.b); e != x.want || f != (api.Frame{}) {
			t.Error(x.name, f, e)
		}
	}
}

func TestP3_3RankIsTheSum(t *testing.T) {
	d := dice(9)
	for locals, height := range everyShape {
		for _, l := range tables() {
			f, want := thrown(&d, l, locals, height), 0
			for i := range locals + height {
				want += types.Rank(l, f.Slots[i])
			}
			if n, e := frames.Rank(l, f); e != api.OK || n != want {
				t.Fatal(len(l), f, n, e)
			}
		}
	}
	behind := of(1, api.TInt)
	behind.Slots[1] = api.TInt
	for _, x := range []struct {
		f    api.Frame
		want api.Errno
	}{{api.Frame{Locals: -1}, api.ErrShape}, {api.Frame{Height: math.MaxInt}, api.ErrShape}, {behind, api.ErrShape}, {of(1, api.TInt, 9), api.ErrType}, {of(1, shape), api.ErrType}} {
		if n, e := frames.Rank(nil, x.f); e != x.want || n != 0 {
			t.Error(x.f, n, e)
		}
	}
}

func TestP3_5Print(t *testing.T) {
	d := dice(11)
	for locals, height := range everyShape {
		for _, l := range tables() {
			f := thrown(&d, l, locals, height)
			var first, second []string
			for i := range locals + height {
				if word := types.Print(l, f.Slots[i]); i < locals {
					first = append(first, word)
				} else {
					second = append(second, word)
				}
			}
			want := "[" + strings.Join(first, " ") + " | " + strings.Join(second, " ") + "]"
			if s, e := frames.Print(l, f); e != api.OK || s != want {
				t.Fatal(f, s, e)
			}
		}
	}
	for _, x := range []struct {
		f    api.Frame
		want string
	}{
		{api.Frame{}, "[ | ]"},
		{of(2, 0, 0), "[top top | ]"},
		{of(0, api.TNull, list), "[ | null list]"},
		{of(1, disc, box), "[disc | box]"},
		{of(3, api.TInt, api.TBool, api.TInts, api.TAny, shape), "[int bool ints | any shape]"},
	} {
		if s, e := frames.Print(shapes(), x.f); e != api.OK || s != x.want {
			t.Error(x.f, s, e)
		}
	}
	behind := of(1, 9)
	behind.Slots[1] = api.TInt
	for _, x := range []struct {
		f    api.Frame
		want api.Errno
	}{{api.Frame{Locals: 17}, api.ErrShape}, {behind, api.ErrShape}, {of(1, 9), api.ErrType}, {of(0, shape+4), api.ErrType}} {
		if s, e := frames.Print(shapes(), x.f); e != x.want || s != "" {
			t.Error(x.f, s, e)
		}
	}
}

func TestNothingHandedInIsChanged(t *testing.T) {
	for _, l := range tables() {
		wide := append(slices.Clone(l), api.Class{Name: "behind", Parent: 5})
		room := []api.Type{api.TInt, api.TBool, 77, 78}
		params := room[:2]
		want := slices.Clone(wide)
		l = wide[:len(l)]
		f, _ := frames.Start(l, params, 3)
		frames.Check(l, f)
		frames.Sub(l, f, f)
		frames.Merge(l, f, f)
		frames.Rank(l, f)
		frames.Print(l, f)
		frames.Push(f, api.TInt)
		frames.Store(f, 0, api.TBool)
		if !slices.Equal(room, []api.Type{api.TInt, api.TBool, 77, 78}) || !reflect.DeepEqual(wide, want) {
			t.Error("the params or the table", room)
		}
		room[0] = api.TAny
		if f != of(3, api.TInt, api.TBool, api.TTop) {
			t.Error("the params were kept, or the frame changed", f)
		}
	}
}

func TestAllEndsOfAllArguments(t *testing.T) {
	d := dice(13)
	all := counts()
	for range 20000 {
		l := append(broken(), tables()...)[d.below(10)]
		var f, g api.Frame
		for _, x := range []*api.Frame{&f, &g} {
			x.Locals, x.Height = d.below(17), d.below(9)
			if d.below(4) == 0 {
				x.Locals, x.Height = all[d.below(len(all))], all[d.below(len(all))]
			}
			for i := range d.below(api.MaxSlots + 1) {
				x.Slots[i] = api.Type(d.below(256))
			}
		}
		n, code := all[d.below(len(all))], api.Type(d.below(256))
		frames.Empty(n)
		frames.Start(l, f.Slots[:d.below(api.MaxSlots)], n)
		frames.Check(l, f)
		frames.Sub(l, f, g)
		frames.Merge(l, f, g)
		frames.Rank(l, f)
		frames.Push(f, code)
		frames.Pop(f)
		frames.Top(f, n)
		frames.Load(f, n)
		frames.Store(f, n, code)
		frames.Print(l, f)
	}
}
