package types_test

import (
	"math"
	"reflect"
	"slices"
	"strconv"
	"strings"
	"testing"

	"proviso/api"
	"proviso/types"
)

// one is a class without a parent.
func one(name string, fields ...api.Field) api.Class {
	return api.Class{Name: name, Parent: -1, Fields: fields}
}

func field(name string, t api.Type) api.Field { return api.Field{Name: name, Type: t} }

// isFault fails the test, if Check tells another thing.
func isFault(t *testing.T, what string, l []api.Class, c int, want api.Errno) {
	t.Helper()
	if n, e := types.Check(l); n != c || e != want {
		t.Errorf("%s: %d, %v; want %d, %v", what, n, e, c, want)
	}
}

func TestP2_1TablesThatMayBe(t *testing.T) {
	for i, l := range tables() {
		isFault(t, strconv.Itoa(i), l, 0, api.OK)
	}
	isFault(t, "a field of a word's name", with(one("e", field("int", api.TInt), field("any", api.TInt))), 0, api.OK)
	isFault(t, "a field of a class's name", with(one("e", field("e", api.TInt), field("disc", api.TInt))), 0, api.OK)
	isFault(t, "the same field in two lines", with(one("e", field("x", api.TInt), field("r", api.TBool))), 0, api.OK)
	isFault(t, "other letters", with(one("Disc", field("x", api.TInt), field("X", api.TInt))), 0, api.OK)
	isFault(t, "a type behind", []api.Class{one("a", field("f", api.TClass+1)), one("b", field("f", api.TClass))}, 0, api.OK)
}

func TestP2_1TooManyClasses(t *testing.T) {
	isFault(t, "32", flat(32), 0, api.OK)
	isFault(t, "33", flat(33), 32, api.ErrLong)
	isFault(t, "thousands", chain(5000), 32, api.ErrLong)
	l := flat(33)
	l[32] = api.Class{Name: "", Parent: 99, Fields: []api.Field{field("", 99)}}
	isFault(t, "33 with all faults", l, 32, api.ErrLong)
	l[31].Name = "top"
	isFault(t, "a fault ahead of that", l, 31, api.ErrName)
	l = flat(40)
	l[0].Fields = []api.Field{field("f", api.TClass+39)}
	isFault(t, "a class of the table past the limit", l, 32, api.ErrLong)
	l[0].Fields[0].Type++
	isFault(t, "no class of it", l, 0, api.ErrType)
}

func TestP2_1ClassNames(t *testing.T) {
	for _, s := range []string{"", "1a", "_", "a b", "caf\u00e9", strings.Repeat("a", 25), "top", "int", "bool", "null", "ints", "any"} {
		isFault(t, s, with(one(s)), 4, api.ErrName)
		isFault(t, s+" with all other faults", with(api.Class{Name: s, Parent: -2, Fields: []api.Field{field("", 99)}}), 4, api.ErrName)
	}
	for _, s := range []string{"a", strings.Repeat("a", 24), "Top", "tops", "i", "integer", "anything", "nul", "while"} {
		isFault(t, s, with(one(s)), 0, api.OK)
	}
	for _, known := range shapes() {
		isFault(t, known.Name+" twice", with(one(known.Name)), 4, api.ErrTwice)
		isFault(t, "twice with all faults behind that", with(api.Class{Name: known.Name, Parent: 4, Fields: []api.Field{field("", 99)}}), 4, api.ErrTwice)
		isFault(t, "twice, later", with(one("e"), one(known.Name)), 5, api.ErrTwice)
	}
	isFault(t, "the first of two faults", with(one("disc"), one("")), 4, api.ErrTwice)
}

func TestP2_1Parents(t *testing.T) {
	for _, p := range []int{4, 5, 6, -2, math.MinInt, math.MaxInt} {
		isFault(t, "parent "+strconv.Itoa(p), with(api.Class{Name: "e", Parent: p}, one("f")), 4, api.ErrParent)
		isFault(t, "with faults of fields", with(api.Class{Name: "e", Parent: p, Fields: []api.Field{field("", 99)}}), 4, api.ErrParent)
	}
	for _, p := range []int{-1, 0, 1, 2, 3} {
		isFault(t, "parent "+strconv.Itoa(p), with(api.Class{Name: "e", Parent: p}), 0, api.OK)
	}
	isFault(t, "its own", []api.Class{{Name: "a", Parent: 0}}, 0, api.ErrParent)
	isFault(t, "a ring", []api.Class{{Name: "a", Parent: 1}, {Name: "b", Parent: 0}}, 0, api.ErrParent)
}

func TestP2_1FieldByField(t *testing.T) {
	for what, x := range map[string]struct {
		parent int
		fields []api.Field
		want   api.Errno
	}{
		"no name":                                 {-1, []api.Field{field("", api.TInt)}, api.ErrName},
		"no name, no type":                        {-1, []api.Field{field("1", api.TTop)}, api.ErrName},
		"a name too long":                         {-1, []api.Field{field(strings.Repeat("a", 25), api.TInt)}, api.ErrName},
		"the longest name":                        {-1, []api.Field{field(strings.Repeat("a", 24), api.TInt)}, api.OK},
		"the parent's":                            {1, []api.Field{field("r", api.TInt)}, api.ErrTwice},
		"the parent's parent's":                   {1, []api.Field{field("x", api.TInt)}, api.ErrTwice},
		"twice, no type":                          {1, []api.Field{field("x", api.TNull)}, api.ErrTwice},
		"of another line":                         {1, []api.Field{field("w", api.TInt)}, api.OK},
		"an own one ahead":                        {-1, []api.Field{field("a", api.TInt), field("b", api.TInt), field("a", api.TBool)}, api.ErrTwice},
		"an own one ahead, no type":               {-1, []api.Field{field("a", api.TInt), field("a", api.TNull)}, api.ErrTwice},
		"no type, ahead of twice":                 {-1, []api.Field{field("a", api.TNull), field("a", api.TInt)}, api.ErrType},
		"no type in the midst, ahead of twice":    {-1, []api.Field{field("a", api.TInt), field("b", api.TNull), field("a", api.TInt)}, api.ErrType},
		"no type, ahead of no name":               {-1, []api.Field{field("a", api.TTop), field("", api.TInt)}, api.ErrType},
		"twice, ahead of no name":                 {0, []api.Field{field("x", api.TInt), field("", api.TInt)}, api.ErrTwice},
		"no name behind right ones":               {0, []api.Field{field("a", api.TInt), field("b", api.TInt), field("a b", api.TInt)}, api.ErrName},
		"its own class":                           {-1, []api.Field{field("a", api.TClass+4)}, api.OK},
		"a class behind":                          {-1, []api.Field{field("a", api.TClass+5)}, api.OK},
		"one past the last class":                 {-1, []api.Field{field("a", api.TClass+6)}, api.ErrType},
		"more fields than may be, the last wrong": {-1, append(row("a", 32), field("a0", api.TInt)), api.ErrTwice},
		"more fields than may be, no type":        {-1, append(row("a", 32), field("z", api.TTop)), api.ErrType},
	} {
		c := 4
		if x.want == api.OK {
			c = 0
		}
		isFault(t, what, with(api.Class{Name: "e", Parent: x.parent, Fields: x.fields}, one("f")), c, x.want)
	}
}

func TestP2_1StoredTypes(t *testing.T) {
	for code := range 256 {
		of := api.Type(code)
		want := api.ErrType
		switch of {
		case api.TInt, api.TBool, api.TInts, api.TAny, shape, disc, box, list, api.TClass + 4:
			want = api.OK
		}
		c := 4
		if want == api.OK {
			c = 0
		}
		isFault(t, strconv.Itoa(code), with(one("e", field("f", of))), c, want)
	}
}

func TestP2_1TooManyFields(t *testing.T) {
	isFault(t, "32", []api.Class{one("a", row("f", 32)...)}, 0, api.OK)
	isFault(t, "33", []api.Class{one("a", row("f", 33)...)}, 0, api.ErrLong)
	isFault(t, "very many", []api.Class{one("a", row("f", 1<<17)...)}, 0, api.ErrLong)
	for own := range 4 {
		l := []api.Class{
			one("a", row("f", 20)...),
			{Name: "b", Parent: 0, Fields: row("g", 10)},
			{Name: "c", Parent: 1, Fields: row("h", own)},
		}
		if own <= 2 {
			isFault(t, "of a line", l, 0, api.OK)
		} else {
			isFault(t, "of a line", l, 2, api.ErrLong)
		}
	}
}

// faultOf is P2.1 as it is worded, of the class c.
func faultOf(l []api.Class, c int) api.Errno {
	k := l[c]
	if c >= 32 {
		return api.ErrLong
	}
	if k.Name == "" || slices.Contains([]string{"top", "int", "bool", "null", "ints", "any"}, k.Name) {
		return api.ErrName
	}
	for _, ahead := range l[:c] {
		if ahead.Name == k.Name {
			return api.ErrTwice
		}
	}
	if k.Parent < -1 || k.Parent >= c {
		return api.ErrParent
	}
	all := allFields(l, c)
	for i := len(all) - len(k.Fields); i < len(all); i++ {
		if all[i].Name == "" {
			return api.ErrName
		}
		for _, ahead := range all[:i] {
			if ahead.Name == all[i].Name {
				return api.ErrTwice
			}
		}
		if of := all[i].Type; of == api.TTop || of == api.TNull || !isValid(l, of) {
			return api.ErrType
		}
	}
	if len(all) > 32 {
		return api.ErrLong
	}
	return api.OK
}

func TestP2_1HeldAgainstItsWords(t *testing.T) {
	d := dice(21)
	seen := map[api.Errno]int{}
	for range 5000 {
		l := grown(&d, d.below(36))
		for range d.below(4) {
			if len(l) == 0 {
				break
			}
			k := &l[d.below(len(l))]
			switch d.below(6) {
			case 0:
				k.Name = []string{"", "null", "c0", "c3"}[d.below(4)]
			case 1:
				k.Parent = d.below(len(l)+3) - 2
			case 2:
				k.Fields = append(k.Fields, field("", api.TInt))
			case 3:
				k.Fields = append(k.Fields, field("same", api.Type(d.below(20))))
			case 4:
				k.Fields = append(k.Fields, field("f0_0", api.TBool))
			case 5:
				k.Fields = append(k.Fields, row("r"+k.Name, d.below(34))...)
			}
		}
		wantAt, want := 0, api.OK
		for c := range l {
			if e := faultOf(l, c); e != api.OK {
				wantAt, want = c, e
				break
			}
		}
		if at, e := types.Check(l); at != wantAt || e != want {
			t.Fatal(l, at, e, wantAt, want)
		}
		seen[want]++
	}
	for _, e := range []api.Errno{api.OK, api.ErrLong, api.ErrName, api.ErrTwice, api.ErrParent, api.ErrType} {
		if seen[e] < 20 {
			t.Error("too few tables with", e, seen[e])
		}
	}
}

func TestP2_6Fields(t *testing.T) {
	for _, l := range tables() {
		for c := range l {
			if got, want := types.Fields(l, c), allFields(l, c); !slices.Equal(got, want) {
				t.Fatal(l, c, got, want)
			}
		}
		for _, c := range []int{-1, len(l), len(l) + 1, math.MinInt, math.MaxInt} {
			if got := types.Fields(l, c); len(got) != 0 {
				t.Error(c, got)
			}
		}
	}
}

func TestP2_6FieldsAnswersNewMemory(t *testing.T) {
	l := shapes()
	room := append(make([]api.Field, 0, 8), l[0].Fields...)
	l[0].Fields = room
	for c := range l {
		first, second := types.Fields(l, c), types.Fields(l, c)
		first = first[:cap(first)]
		for i := range first {
			first[i] = field("changed", 99)
		}
		if !slices.Equal(second, allFields(shapes(), c)) {
			t.Error("two answers share memory", c)
		}
	}
	if !reflect.DeepEqual(l, shapes()) {
		t.Error("an answer shares memory with the table", l)
	}
	if room = room[:cap(room)]; room[1] != (api.Field{}) {
		t.Error("the room behind a list's end was changed", room)
	}
}

func TestP2_6Find(t *testing.T) {
	for _, l := range tables() {
		for c := range l {
			for i, f := range allFields(l, c) {
				if n, of, ok := types.Find(l, c, f.Name); n != i || of != f.Type || !ok {
					t.Error(c, f, n, of, ok)
				}
			}
		}
	}
	for _, x := range []struct {
		c    int
		name string
	}{{0, "r"}, {1, "w"}, {0, ""}, {0, "X"}, {0, "shape"}, {3, "x"}, {-1, "x"}, {4, "x"}, {math.MinInt, "x"}, {math.MaxInt, "x"}} {
		if n, of, ok := types.Find(shapes(), x.c, x.name); n != 0 || of != api.TTop || ok {
			t.Error(x, n, of, ok)
		}
	}
}

func TestP2_11ARecordsFieldsStay(t *testing.T) {
	for _, l := range tables() {
		for below := range l {
			for above := range l {
				if !types.Sub(l, api.TClass+api.Type(below), api.TClass+api.Type(above)) {
					continue
				}
				mine := types.Fields(l, below)
				for i, f := range types.Fields(l, above) {
					n, of, ok := types.Find(l, below, f.Name)
					if i >= len(mine) || mine[i] != f || n != i || of != f.Type || !ok {
						t.Fatal(l, below, above, i, n, of, ok)
					}
				}
			}
		}
	}
}

// wrongTables are some that may not be: rings, parents out of the table, more classes than codes.
func wrongTables() [][]api.Class {
	many := chain(3000)
	for c := range many {
		many[c].Fields = []api.Field{field("x", 99), field("", 255)}
	}
	return [][]api.Class{
		{{Name: "a", Parent: 0, Fields: row("f", 40)}},
		{{Name: "a", Parent: 1}, {Name: "a", Parent: 0}},
		{{Name: "", Parent: 7}, {Name: "int", Parent: math.MaxInt}, {Name: "a", Parent: math.MinInt}},
		{{Name: "a", Parent: 2}, {Name: "b", Parent: 0}, {Name: "c", Parent: 1}},
		make([]api.Class, 300),
		chain(256),
		many,
	}
}

func TestAllEndsOfTablesThatMayNotBe(t *testing.T) {
	numbers := []int{math.MinInt, -1, 0, 1, 2, 3, 239, 240, 255, 256, 2999, 3000, math.MaxInt}
	for _, l := range wrongTables() {
		if _, e := types.Check(l); e == api.OK {
			t.Error("may be", len(l))
		}
		for a := range 256 {
			t := api.Type(a)
			types.Valid(l, t)
			types.Rank(l, t)
			types.Print(l, t)
			for b := range 256 {
				types.Sub(l, t, api.Type(b))
				types.Merge(l, t, api.Type(b))
			}
		}
		for _, c := range numbers {
			types.Fields(l, c)
			types.Find(l, c, "x")
			types.Find(l, c, "")
		}
		for _, s := range []string{"", "a", "int", "c299", "c2999"} {
			types.Parse(l, s)
		}
	}
}

func TestNothingHandedInIsChanged(t *testing.T) {
	l := shapes()
	kept := shapes()
	types.Check(l)
	for a := range 32 {
		types.Valid(l, api.Type(a))
		types.Rank(l, api.Type(a))
		types.Print(l, api.Type(a))
		types.Fields(l, a)
		types.Find(l, a, "w")
		for b := range 32 {
			types.Sub(l, api.Type(a), api.Type(b))
			types.Merge(l, api.Type(a), api.Type(b))
		}
	}
	types.Parse(l, "box")
	if !reflect.DeepEqual(l, kept) {
		t.Error(l)
	}
}
