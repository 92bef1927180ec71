package types_test

import (
	"strings"
	"testing"

	"proviso/api"
	"proviso/types"
)

func TestP2_2Valid(t *testing.T) {
	for _, l := range tables() {
		for code := range 256 {
			if of := api.Type(code); types.Valid(l, of) != isValid(l, of) {
				t.Error(len(l), code)
			}
		}
	}
	if !types.Valid(flat(32), api.TClass+31) || types.Valid(flat(32), api.TClass+32) || types.Valid(nil, api.TClass) || types.Valid(flat(32), 255) {
		t.Error("the last class, and one past it")
	}
}

func TestP2_2IsRef(t *testing.T) {
	for code := range 256 {
		want := code == 3 || code == 4 || code == 5 || code >= 16
		if types.IsRef(api.Type(code)) != want {
			t.Error(code)
		}
	}
}

func TestP2_3Sub(t *testing.T) {
	for _, l := range tables() {
		for a := range 256 {
			for b := range 256 {
				a, b := api.Type(a), api.Type(b)
				want := isValid(l, a) && isValid(l, b) && isOf(l, a, b)
				if types.Sub(l, a, b) != want {
					t.Fatal(l, a, b, want)
				}
			}
		}
	}
}

func TestP2_4Merge(t *testing.T) {
	for _, l := range tables() {
		for _, a := range valids(l) {
			for _, b := range valids(l) {
				want := leasts(l, a, b)
				if len(want) != 1 {
					t.Fatal("not one least type", l, a, b, want)
				}
				if got := types.Merge(l, a, b); got != want[0] {
					t.Fatal(l, a, b, got, want[0])
				}
			}
		}
	}
}

func TestP2_4MergeOfWhatIsNotValid(t *testing.T) {
	for _, l := range [][]api.Class{nil, shapes()} {
		for a := range 256 {
			for b := range 256 {
				a, b := api.Type(a), api.Type(b)
				if isValid(l, a) && isValid(l, b) {
					continue
				}
				if got := types.Merge(l, a, b); got != api.TTop {
					t.Fatal(a, b, got)
				}
			}
		}
	}
}

func TestP2_5Rank(t *testing.T) {
	for _, l := range tables() {
		known := map[api.Type]int{}
		for code := range 256 {
			of, want := api.Type(code), 0
			if isValid(l, of) {
				want = longest(l, of, known)
			}
			if got := types.Rank(l, of); got != want {
				t.Error(l, code, got, want)
			}
		}
	}
}

func TestP2_7Print(t *testing.T) {
	for _, l := range tables() {
		for code := range 256 {
			want := ""
			switch {
			case code < 6:
				want = strings.Fields("top int bool null ints any")[code]
			case code >= 16 && code-16 < len(l):
				want = l[code-16].Name
			}
			if got := types.Print(l, api.Type(code)); got != want {
				t.Error(code, got, want)
			}
		}
	}
}

func TestP2_7Parse(t *testing.T) {
	for i, word := range strings.Fields("top int bool null ints any") {
		for _, l := range [][]api.Class{nil, shapes()} {
			if of, ok := types.Parse(l, word); of != api.Type(i) || !ok {
				t.Error(word, of, ok)
			}
		}
	}
	for i, name := range strings.Fields("shape disc box list") {
		if of, ok := types.Parse(shapes(), name); of != api.TClass+api.Type(i) || !ok {
			t.Error(name, of, ok)
		}
		if of, ok := types.Parse(nil, name); of != api.TTop || ok {
			t.Error(name, "of no table", of, ok)
		}
	}
	for _, s := range []string{"", "thing", "Int", "TOP", " int", "int ", "in", "shape2", "x", "16"} {
		if of, ok := types.Parse(shapes(), s); of != api.TTop || ok {
			t.Errorf("%q: %d, %v", s, of, ok)
		}
	}
}

func TestP2_8AnOrder(t *testing.T) {
	for _, l := range tables() {
		all := valids(l)
		for _, a := range all {
			if !types.Sub(l, a, a) {
				t.Error(a, "is not of itself")
			}
			for _, b := range all {
				if a != b && types.Sub(l, a, b) && types.Sub(l, b, a) {
					t.Error(a, b, "both ways")
				}
				for _, c := range all {
					if types.Sub(l, a, b) && types.Sub(l, b, c) && !types.Sub(l, a, c) {
						t.Error(a, b, c, "not through")
					}
				}
			}
		}
	}
}

func TestP2_9LeastAbove(t *testing.T) {
	for _, l := range tables() {
		all := valids(l)
		for _, a := range all {
			if types.Merge(l, a, a) != a {
				t.Error(a, "with itself")
			}
			for _, b := range all {
				both := types.Merge(l, a, b)
				if both != types.Merge(l, b, a) {
					t.Error(a, b, "turned round")
				}
				if types.Sub(l, a, b) != (both == b) {
					t.Error(a, b, "Sub and Merge")
				}
				for _, c := range all {
					if types.Merge(l, a, types.Merge(l, b, c)) != types.Merge(l, both, c) {
						t.Error(a, b, c, "grouped")
					}
				}
			}
		}
	}
}

func TestP2_10StepsUpwards(t *testing.T) {
	for _, l := range tables() {
		for _, a := range valids(l) {
			if n := types.Rank(l, a); n < 0 || n > api.MaxClasses+2 {
				t.Error(a, "rank", n)
			}
			for _, b := range valids(l) {
				if a != b && types.Sub(l, a, b) && types.Rank(l, a) <= types.Rank(l, b) {
					t.Error(a, b, types.Rank(l, a), types.Rank(l, b))
				}
			}
		}
	}
	if n := types.Rank(chain(api.MaxClasses), api.TNull); n != api.MaxClasses+2 {
		t.Error("the highest rank itself", n)
	}
}

func TestP2_12ThereAndBack(t *testing.T) {
	for _, l := range tables() {
		for _, a := range valids(l) {
			if b, ok := types.Parse(l, types.Print(l, a)); b != a || !ok {
				t.Error(a, b, ok)
			}
		}
	}
}

func TestExamplesOfChapter2(t *testing.T) {
	l := shapes()
	isFault(t, "T", l, 0, api.OK)
	isFault(t, "disc again", with(one("disc")), 4, api.ErrTwice)
	isFault(t, "the parent 4", with(api.Class{Name: "e", Parent: 4}), 4, api.ErrParent)
	isFault(t, "disc's x again", with(api.Class{Name: "e", Parent: 1, Fields: []api.Field{field("x", api.TInt)}}), 4, api.ErrTwice)
	for _, x := range [][3]api.Type{{disc, box, shape}, {disc, list, api.TAny}, {api.TNull, disc, disc}, {api.TInts, api.TNull, api.TInts}, {api.TInt, api.TBool, api.TTop}, {api.TInt, api.TAny, api.TTop}} {
		if got := types.Merge(l, x[0], x[1]); got != x[2] {
			t.Error("Merge", x, got)
		}
	}
	for of, n := range map[api.Type]int{api.TTop: 0, api.TInt: 1, api.TAny: 1, shape: 2, disc: 3, api.TNull: 4} {
		if got := types.Rank(l, of); got != n {
			t.Error("Rank", of, got)
		}
	}
	if got := types.Rank(nil, api.TNull); got != 3 {
		t.Error("Rank of null without classes", got)
	}
	if n, of, ok := types.Find(l, 2, "w"); n != 1 || of != api.TInt || !ok {
		t.Error("Find", n, of, ok)
	}
}
