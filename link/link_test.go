package link_test

import (
	"bytes"
	"slices"
	"strings"
	"testing"

	"proviso/api"
	"proviso/link"
	"proviso/samples"
)

// two are the parts of the chapter's first example.
func two(t *testing.T) (a, b api.Part) {
	gives := sig(api.TInt)
	a = needs(part("a", fun(t, "f", "call 1; return", gives)), api.Import{Name: "g", Sig: gives})
	return a, part("b", fun(t, "g", "int 7; return", gives))
}

func TestP18_1Examples(t *testing.T) {
	a, b := two(t)
	m := linked(t, "w", a, b)
	if m.Name != "w" || m.Funcs[0].Name != "f" || m.Funcs[1].Name != "g" || !bytes.Equal(m.Funcs[0].Code, []byte{21, 1, 22}) || len(m.Certs) != 2 {
		t.Error(m)
	}
	m = linked(t, "w", b, a)
	if m.Funcs[0].Name != "g" || m.Funcs[1].Name != "f" || !bytes.Equal(m.Funcs[1].Code, []byte{21, 0, 22}) {
		t.Error(m)
	}
	isInt, isBool := class("p", -1, "x", api.TInt), class("p", -1, "x", api.TBool)
	if m := linked(t, "w", having(a, isInt), having(b, isInt)); len(m.Classes) != 1 || show(m.Classes[0]) != show(isInt) {
		t.Error(m)
	}
	isRefused(t, "unlike", "b", 0, api.ErrClash, having(a, isInt), having(b, isBool))
	isRefused(t, "no b", "a", 0, api.ErrImport, a)
	takes := part("b", fun(t, "g", "int 7; return", sig(api.TInt, api.TInt)))
	isRefused(t, "it takes an int", "a", 0, api.ErrSig, a, takes)
}

func TestP18_1TheName(t *testing.T) {
	a, b := two(t)
	bad := part("1")
	for _, name := range []string{"", "1", "a b", "_", "\x00", strings.Repeat("n", 25), "é"} {
		for _, l := range [][]api.Part{nil, {a, b}, {bad}, make([]api.Part, 65)} {
			m, err := link.Link(name, l)
			if x := troubleOf(t, m, err); x != (api.Trouble{In: name, Fault: api.Fault{Why: api.ErrName}}) {
				t.Errorf("%q: %v", name, x)
			}
		}
	}
	for _, name := range []string{"a", "any", strings.Repeat("n", 24), "Z9_"} { // a's name too: the module is none of the parts
		if m := linked(t, name, a, b); m.Name != name {
			t.Error(m.Name)
		}
	}
}

func TestP18_1HowManyParts(t *testing.T) {
	var l []api.Part
	for _, f := range numbered("p", 0, 65) {
		l = append(l, part(f.Name, api.Func{Name: f.Name, Code: f.Code}))
	}
	if m := linked(t, "w", l[:64]...); len(m.Funcs) != 64 || m.Funcs[63].Name != "p63" {
		t.Error(m)
	}
	isRefused(t, "65", "w", 0, api.ErrLong, l...)
	l[3] = part("1")
	isRefused(t, "65, one of which can't be", "w", 0, api.ErrLong, l...)
	isRefused(t, "very many", "w", 0, api.ErrLong, make([]api.Part, 5000)...)
	for _, l := range [][]api.Part{nil, {}} {
		if m := linked(t, "w", l...); show(m) != show(api.Module{Name: "w"}) {
			t.Error(m)
		}
		isTold(t, "w", l)
	}
}

func TestP18_1PartsThatMayNotBe(t *testing.T) {
	good := part("a", fun(t, "f", "return", sig(0)), fun(t, "g", "return", sig(0)))
	two := having(good, class("p", -1), class("q", 0))
	with := func(change func(p *api.Part)) api.Part {
		p := copied([]api.Part{two})[0]
		p.Module.Name = "b"
		p.Module.Classes[0].Name, p.Module.Classes[1].Name = "r", "s"
		p.Module.Funcs[0].Name, p.Module.Funcs[1].Name = "h", "i"
		change(&p)
		return p
	}
	linked(t, "w", two, with(func(*api.Part) {}))
	for _, x := range []struct {
		about string
		in    string
		at    int
		why   api.Errno
		bad   api.Part
	}{
		{"no name", "", 0, api.ErrName, with(func(p *api.Part) { p.Module.Name = "" })},
		{"no name", "1 b", 0, api.ErrName, with(func(p *api.Part) { p.Module.Name = "1 b" })},
		{"a class's name", "b", 1, api.ErrName, with(func(p *api.Part) { p.Module.Classes[1].Name = "any" })},
		{"a class twice", "b", 1, api.ErrTwice, with(func(p *api.Part) { p.Module.Classes[1].Name = "r" })},
		{"a parent", "b", 0, api.ErrParent, with(func(p *api.Part) { p.Module.Classes[0].Parent = 0 })},
		{"a field", "b", 1, api.ErrType, with(func(p *api.Part) { p.Module.Classes[1].Fields = []api.Field{{Name: "x"}} })},
		{"classes", "b", 32, api.ErrLong, with(func(p *api.Part) { p.Module.Classes = samples.Chain(33) })},
		{"functions", "b", 64, api.ErrLong, with(func(p *api.Part) { p.Module.Funcs = numbered("n", 0, 65) })},
		{"a function's name", "b", 1, api.ErrName, with(func(p *api.Part) { p.Module.Funcs[1].Name = "" })},
		{"a function twice", "b", 1, api.ErrTwice, with(func(p *api.Part) { p.Module.Funcs[1].Name = "h" })},
		{"parameters", "b", 1, api.ErrLong, with(func(p *api.Part) { p.Module.Funcs[1].Sig.Params = make([]api.Type, 9) })},
		{"a parameter", "b", 0, api.ErrType, with(func(p *api.Part) { p.Module.Funcs[0].Sig.Params = []api.Type{api.TClass + 2} })},
		{"a result", "b", 1, api.ErrType, with(func(p *api.Part) { p.Module.Funcs[1].Sig.Result = api.TNull })},
		{"locals", "b", 1, api.ErrRange, with(func(p *api.Part) { p.Module.Funcs[1].Locals = 17 })},
		{"no code", "b", 0, api.ErrShort, with(func(p *api.Part) { p.Module.Funcs[0].Code = nil })},
		{"long code", "b", 1, api.ErrLong, with(func(p *api.Part) { p.Module.Funcs[1].Code = make([]byte, 4097) })},
		{"certificates", "b", 0, api.ErrCerts, with(func(p *api.Part) { p.Module.Certs = make([][]byte, 1) })},
		{"a long certificate", "b", 1, api.ErrLong, with(func(p *api.Part) { p.Module.Certs = [][]byte{nil, make([]byte, 65536)} })},
	} {
		isRefused(t, x.about, x.in, x.at, x.why, two, x.bad)
		isRefused(t, x.about+", ahead", x.in, x.at, x.why, x.bad, two)
		isRefused(t, x.about+", alone", x.in, x.at, x.why, x.bad)
		same := x.bad // what module.Check says comes ahead of a name that is there already, and of the imports
		same.Imports = make([]api.Import, 70)
		isRefused(t, x.about+", with imports", x.in, x.at, x.why, two, same)
		if same.Module.Name == "b" {
			same.Module.Name = "a"
			isRefused(t, x.about+", a name twice", "a", x.at, x.why, two, same)
		}
		wrong := needs(two, api.Import{}) // part by part: this one comes ahead of the next one's module
		isRefused(t, x.about+", behind an import", "a", 0, api.ErrName, wrong, x.bad)
	}
}

func TestP18_1NamesOfParts(t *testing.T) {
	a, b, c := part("a", numbered("a", 0, 1)...), part("b", numbered("b", 0, 1)...), part("a", numbered("c", 0, 1)...)
	isRefused(t, "a name twice", "a", 0, api.ErrTwice, a, b, c)
	isRefused(t, "a name twice, without anything", "a", 0, api.ErrTwice, part("a"), part("a"))
	isRefused(t, "ahead of imports", "a", 0, api.ErrTwice, a, needs(c, make([]api.Import, 65)...))
	isRefused(t, "behind imports of a part ahead", "b", 0, api.ErrName, a, needs(b, api.Import{}), c)
	linked(t, "w", a, b, part("c", c.Module.Funcs...))
}

func TestP18_1Imports(t *testing.T) {
	own := having(part("a", fun(t, "f", "return", sig(0)), fun(t, "g", "return", sig(0))), class("p", -1))
	other := having(part("b", fun(t, "x", "return", sig(0)), fun(t, "y", "return", sig(0))), class("q", -1), class("r", -1))
	x, y := api.Import{Name: "x"}, api.Import{Name: "y"}
	named := func(s api.Sig) api.Import { return api.Import{Name: "z", Sig: s} }
	linked(t, "w", needs(own, x, y), other)
	for _, c := range []struct {
		about string
		at    int
		why   api.Errno
		l     []api.Import
	}{
		{"no name", 0, api.ErrName, []api.Import{{}}},
		{"no name", 1, api.ErrName, []api.Import{x, {Name: "a-b"}}},
		{"no name", 1, api.ErrName, []api.Import{x, {Name: strings.Repeat("n", 25)}}},
		{"twice", 2, api.ErrTwice, []api.Import{x, y, x}},
		{"twice no name", 0, api.ErrName, []api.Import{{}, {}}},
		{"an own function's", 0, api.ErrTwice, []api.Import{{Name: "g"}}},
		{"an own function's", 1, api.ErrTwice, []api.Import{x, {Name: "f"}}},
		{"9 parameters", 1, api.ErrLong, []api.Import{x, named(sig(0, make([]api.Type, 9)...))}},
		{"9 parameters, twice", 1, api.ErrTwice, []api.Import{x, {Name: "x", Sig: sig(0, make([]api.Type, 9)...)}}},
		{"9 parameters, no name", 0, api.ErrName, []api.Import{{Name: "1", Sig: sig(0, make([]api.Type, 9)...)}}},
		{"of no type", 1, api.ErrType, []api.Import{x, named(sig(0, api.TInt, api.TTop))}},
		{"null", 0, api.ErrType, []api.Import{named(sig(0, api.TNull))}},
		{"6", 0, api.ErrType, []api.Import{named(sig(0, 6))}},
		{"a class of another part", 0, api.ErrType, []api.Import{named(sig(0, api.TClass+1))}},
		{"255", 0, api.ErrType, []api.Import{named(sig(0, 255))}},
		{"gives null", 0, api.ErrType, []api.Import{named(sig(api.TNull))}},
		{"gives another part's class", 0, api.ErrType, []api.Import{named(sig(api.TClass + 1))}},
		{"gives 15", 0, api.ErrType, []api.Import{named(sig(15))}},
		{"gives 15, takes 9", 0, api.ErrLong, []api.Import{named(sig(15, make([]api.Type, 9)...))}},
		{"of no type, twice", 1, api.ErrTwice, []api.Import{x, {Name: "x", Sig: sig(6)}}},
		{"the first of them", 1, api.ErrType, []api.Import{x, named(sig(6)), {}}},
	} {
		isRefused(t, c.about, "a", c.at, c.why, needs(own, c.l...), other)
		isRefused(t, c.about+", behind", "a", c.at, c.why, other, needs(own, c.l...))
	}
	for _, s := range []api.Sig{sig(api.TClass, slices.Repeat([]api.Type{api.TInt}, 8)...), sig(api.TAny, api.TInts, api.TAny, api.TBool, api.TClass)} {
		isRefused(t, "there is none", "a", 0, api.ErrImport, needs(own, named(s)), other)
	}
}

func TestP18_1HowManyImports(t *testing.T) {
	var l []api.Import
	for _, f := range numbered("x", 0, 65) {
		l = append(l, api.Import{Name: f.Name})
	}
	b := part("b", numbered("x", 0, 64)...)
	if m := linked(t, "w", needs(part("a"), l[:64]...), b); len(m.Funcs) != 64 {
		t.Error(m)
	}
	isRefused(t, "65", "a", 64, api.ErrLong, needs(part("a"), l...), b)
	l[0].Name = ""
	isRefused(t, "65, one of which can't be", "a", 64, api.ErrLong, needs(part("a"), l...), b)
	isRefused(t, "64, one of which can't be", "a", 0, api.ErrName, needs(part("a"), l[:64]...), b)
}

func TestP18_1CallsOfTheLastNumber(t *testing.T) {
	a := needs(part("a", numbered("f", 0, 1)...))
	b := part("b", numbered("x", 0, 63)...)
	for _, f := range b.Module.Funcs {
		a = needs(a, api.Import{Name: f.Name})
	}
	a.Module.Funcs[0].Code = assembled(t, "call 63; call 1; call 0; return")
	if m := linked(t, "w", a, b); !bytes.Equal(m.Funcs[0].Code, assembled(t, "call 63; call 1; call 0; return")) {
		t.Error(m.Funcs[0])
	}
	if m := linked(t, "w", b, a); !bytes.Equal(m.Funcs[63].Code, assembled(t, "call 62; call 0; call 63; return")) {
		t.Error(m.Funcs[63])
	}
}

func TestP18_1ClassesThatClash(t *testing.T) {
	// Both parts have first, p; the classes that come to be held against one another stand at 2 in a, and at 3 in b.
	a := having(part("a"), class("first", -1), class("p", -1))
	b := having(part("b"), class("p", -1), class("other", -1), class("first", -1))
	const aFirst, aP, bFirst, bP, bOther = api.TClass, api.TClass + 1, api.TClass + 2, api.TClass, api.TClass + 1
	for _, x := range []struct {
		about    string
		one, two api.Class
		same     bool
	}{
		{"nothing", class("c", -1), class("c", -1), true},
		{"the same parent", class("c", 1), class("c", 0), true},
		{"a parent of the same number", class("c", 0), class("c", 0), false},
		{"no parent there", class("c", 1), class("c", -1), false},
		{"no parent here", class("c", -1), class("c", 0), false},
		{"fields", class("c", -1, "x", api.TInt, "y", api.TAny), class("c", -1, "x", api.TInt, "y", api.TAny), true},
		{"a field less", class("c", -1, "x", api.TInt, "y", api.TAny), class("c", -1, "x", api.TInt), false},
		{"a field more", class("c", -1, "x", api.TInt), class("c", -1, "x", api.TInt, "y", api.TAny), false},
		{"another name", class("c", -1, "x", api.TInt), class("c", -1, "y", api.TInt), false},
		{"another order", class("c", -1, "x", api.TInt, "y", api.TInt), class("c", -1, "y", api.TInt, "x", api.TInt), false},
		{"another type", class("c", -1, "x", api.TInt), class("c", -1, "x", api.TBool), false},
		{"any for ints", class("c", -1, "x", api.TAny), class("c", -1, "x", api.TInts), false},
		{"any for a class", class("c", -1, "x", api.TAny), class("c", -1, "x", bP), false},
		{"the same class", class("c", -1, "x", aP), class("c", -1, "x", bP), true},
		{"classes of the same number", class("c", -1, "x", aP), class("c", -1, "x", bOther), false},
		{"its own class", class("c", -1, "x", api.TClass+2), class("c", -1, "x", api.TClass+3), true},
		{"its own class and another one", class("c", -1, "x", api.TClass+2), class("c", -1, "x", bFirst), false},
		{"a parent, and a class", class("c", 0, "x", aFirst), class("c", 2, "x", bFirst), true},
	} {
		l := []api.Part{having(a, x.one), having(b, x.two)}
		back := []api.Part{l[1], l[0]}
		if x.same {
			if m := linked(t, "w", l...); len(m.Classes) != 4 {
				t.Error(x.about, m)
			}
			if !isTold(t, "w", l) || !isTold(t, "w", back) {
				t.Error(x.about)
			}
			continue
		}
		isRefused(t, x.about, "b", 3, api.ErrClash, l...)
		isRefused(t, x.about+", turned round", "a", 2, api.ErrClash, back...)
		isRefused(t, x.about+", ahead of functions", "b", 3, api.ErrClash, withFunc(l[0], "f"), withFunc(l[1], "f"))
		isRefused(t, x.about+", behind a part that can't be", "c", 0, api.ErrName, l[0], l[1], needs(part("c"), api.Import{}))
	}
	third := having(part("c"), class("p", -1, "x", api.TInt))
	isRefused(t, "the third", "c", 0, api.ErrClash, a, b, third)
	isRefused(t, "the first that is unlike", "a", 1, api.ErrClash, third, a, b)
	linked(t, "w", a, b, having(part("c"), class("p", -1)), having(part("d"), class("e", -1), class("p", -1)))
}

// withFunc is a part with one more function that does nothing.
func withFunc(p api.Part, name string) api.Part {
	p.Module.Funcs = append(slices.Clip(p.Module.Funcs), api.Func{Name: name, Code: []byte{api.OpReturn}})
	return p
}

func TestP18_1HowManyClasses(t *testing.T) {
	chain := samples.Chain(32)
	a, b := having(part("a"), chain[:20]...), having(part("b"), chain...)
	if m := linked(t, "w", a, b); show(m.Classes) != show(chain) {
		t.Error(m)
	}
	c := having(part("c"), append(slices.Clone(chain[:3]), class("more", -1))...)
	isRefused(t, "33", "c", 3, api.ErrMany, a, b, c)
	isRefused(t, "33, in another order", "b", 31, api.ErrMany, c, b)
	isRefused(t, "33, ahead of functions", "c", 3, api.ErrMany, withFunc(b, "f"), withFunc(c, "f"))
	clash := having(part("c"), class("c0", -1, "x", api.TInt), class("more", -1))
	isRefused(t, "the first is told", "c", 0, api.ErrClash, b, clash)
	clash = having(part("c"), class("more", -1), class("c0", -1, "x", api.TInt))
	isRefused(t, "the first is told", "c", 0, api.ErrMany, b, clash)
	linked(t, "w", b, having(part("c"), chain[:1]...), having(part("d"), chain[0], chain[1]))
}

func TestP18_1ClassesAsTheyCame(t *testing.T) {
	a := having(part("a"), class("p", -1, "n", api.TClass+1), class("q", 0, "x", api.TInt, "p", api.TClass))
	b := having(part("b"), class("r", -1, "q", api.TClass+3), class("p", -1, "n", api.TClass+3), class("s", 1), class("q", 1, "x", api.TInt, "p", api.TClass+1))
	m := linked(t, "w", a, b)
	want := []api.Class{
		class("p", -1, "n", api.TClass+1), class("q", 0, "x", api.TInt, "p", api.TClass),
		class("r", -1, "q", api.TClass+1), class("s", 0),
	}
	if show(m.Classes) != show(want) {
		t.Error(m.Classes)
	}
	m = linked(t, "w", b, a)
	if show(m.Classes) != show(b.Module.Classes) {
		t.Error(m.Classes)
	}
}

func TestP18_1Functions(t *testing.T) {
	a, b := part("a", numbered("f", 0, 40)...), part("b", numbered("f", 40, 24)...)
	if m := linked(t, "w", a, b); len(m.Funcs) != 64 {
		t.Error(m)
	}
	if m := linked(t, "w", b, a); len(m.Funcs) != 64 || m.Funcs[24].Name != "f0" {
		t.Error(m)
	}
	isRefused(t, "65", "c", 0, api.ErrMany, a, b, part("c", numbered("g", 0, 1)...))
	isRefused(t, "65", "c", 1, api.ErrMany, part("d", numbered("g", 0, 63)...), part("c", numbered("h", 0, 2)...))
	isRefused(t, "a name twice", "b", 1, api.ErrTwice, part("a", numbered("f", 0, 3)...), part("b", numbered("x", 0, 1)[0], numbered("f", 1, 1)[0]))
	isRefused(t, "a name twice, and 65", "c", 0, api.ErrTwice, a, b, part("c", numbered("f", 63, 1)...))
	isRefused(t, "65, and then a name twice", "c", 0, api.ErrMany, a, b, part("c", numbered("x", 0, 1)[0], numbered("f", 63, 1)[0]))
	lacks := needs(part("d", numbered("f", 0, 1)...), api.Import{Name: "nobody"})
	isRefused(t, "ahead of imports", "d", 0, api.ErrTwice, a, lacks)
	isRefused(t, "ahead of imports, and of code", "d", 0, api.ErrTwice, a, part("e", api.Func{Name: "e", Code: []byte{255}}), lacks)
}

func TestP18_1ImportsAndFunctions(t *testing.T) {
	pq := []api.Class{class("p", -1), class("q", 0)}
	qp := []api.Class{class("x", -1), class("p", -1), class("q", 1)}
	const p, q, otherX, otherP, otherQ = api.TClass, api.TClass + 1, api.TClass, api.TClass + 1, api.TClass + 2
	for _, x := range []struct {
		about     string
		want, has api.Sig
		same      bool
	}{
		{"nothing", sig(0), sig(0), true},
		{"numbers", sig(api.TInt, api.TInt, api.TBool), sig(api.TInt, api.TInt, api.TBool), true},
		{"one less", sig(0, api.TInt), sig(0), false},
		{"one more", sig(0), sig(0, api.TInt), false},
		{"another order", sig(0, api.TInt, api.TBool), sig(0, api.TBool, api.TInt), false},
		{"another type", sig(0, api.TInt, api.TBool), sig(0, api.TInt, api.TInt), false},
		{"any for ints", sig(0, api.TInts), sig(0, api.TAny), false},
		{"it gives", sig(0), sig(api.TInt), false},
		{"it gives nothing", sig(api.TInt), sig(0), false},
		{"it gives another one", sig(api.TInts), sig(api.TAny), false},
		{"the same classes", sig(p, p, q), sig(otherP, otherP, otherQ), true},
		{"classes of the same number", sig(0, p), sig(0, otherX), false},
		{"one below", sig(0, p), sig(0, otherQ), false},
		{"it gives one below", sig(p), sig(otherQ), false},
		{"it gives one of the same number", sig(q), sig(otherP), false},
	} {
		a := needs(having(part("a"), pq...), api.Import{Name: "g", Sig: sig(0)}, api.Import{Name: "f", Sig: x.want})
		b := having(part("b", fun(t, "f", "trap 1", x.has), fun(t, "g", "return", sig(0))), qp...)
		if x.same {
			m := linked(t, "w", a, b)
			if n := linked(t, "w", b, a); len(m.Classes) != 3 || len(n.Classes) != 3 || !isTold(t, "w", []api.Part{a, b}) {
				t.Error(x.about, m, n)
			}
			continue
		}
		isRefused(t, x.about, "a", 1, api.ErrSig, a, b)
		isRefused(t, x.about+", turned round", "a", 1, api.ErrSig, b, a)
		isRefused(t, x.about+", ahead of code", "a", 1, api.ErrSig, part("c", api.Func{Name: "h", Code: []byte{255}}), b, a)
	}
	a := needs(part("a"), api.Import{Name: "f"}, api.Import{Name: "g"}, api.Import{Name: "h"})
	b := part("b", fun(t, "f", "return", sig(0)), fun(t, "h", "int 1; return", sig(api.TInt)))
	isRefused(t, "the first of them", "a", 1, api.ErrImport, a, b)
	isRefused(t, "the first of them", "a", 1, api.ErrImport, b, a)
	c := needs(part("c"), api.Import{Name: "h"})
	isRefused(t, "the first part", "c", 0, api.ErrSig, b, c, a)
	isRefused(t, "an import is none that others have", "a", 0, api.ErrImport, needs(part("a"), api.Import{Name: "x"}), needs(part("b"), api.Import{Name: "x"}))
}

func TestP18_1Code(t *testing.T) {
	gives := sig(api.TInt)
	give := fun(t, "give", "int 1; return", gives)
	few, more := having(part("a"), class("p", -1, "x", api.TInt)), having(part("b", give), class("q", -1), class("p", -1, "x", api.TInt))
	coded := func(b ...byte) api.Part {
		p := needs(withFunc(withFunc(few, "f"), "g"), api.Import{Name: "give", Sig: gives})
		p.Module.Funcs[1].Code = b
		return p
	}
	text := func(s string) api.Part { return coded(assembled(t, s)...) }
	for _, x := range []struct {
		about string
		at    int
		why   api.Errno
		bad   api.Part
	}{
		{"no instruction", 0, api.ErrOp, coded(34)},
		{"no instruction behind the end", 1, api.ErrOp, coded(22, 255)},
		{"cut", 1, api.ErrShort, coded(22, 19, 0)},
		{"no bool", 1, api.ErrRange, coded(22, 2, 2)},
		{"a call", 0, api.ErrFunc, text("call 3; return")},
		{"a call", 1, api.ErrFunc, text("nop; call 255; return")},
		{"a call behind the end", 1, api.ErrFunc, text("return; call 4; return")},
		{"a new", 0, api.ErrMember, text("new 1; pop; return")},
		{"a get", 1, api.ErrMember, text("null; get 1 0; pop; return")},
		{"a put", 6, api.ErrMember, text("null; int 1; put 1 0; return")},
		{"a cast", 1, api.ErrMember, text("null; cast 255; pop; return")},
		{"a test", 1, api.ErrMember, text("null; test 1; pop; return")},
		{"a test behind the end", 1, api.ErrMember, text("return; test 1")},
		{"the first of them", 2, api.ErrFunc, text("nop; nop; call 9; new 9")},
		{"the first of them", 2, api.ErrMember, text("nop; nop; new 9; call 9")},
		{"what can't be read is told ahead", 4, api.ErrOp, coded(21, 9, 23, 9, 99)},
	} {
		isRefused(t, x.about, "a", x.at, x.why, x.bad, more)
		isRefused(t, x.about+", turned round", "a", x.at, x.why, more, x.bad)
		under := withFunc(part("c"), "c") // infer would refuse it, but that comes last
		under.Module.Funcs[0].Code = []byte{api.OpAdd}
		isRefused(t, x.about+", ahead of what infer says", "a", x.at, x.why, under, x.bad, more)
		bad := withFunc(part("c"), "c")
		bad.Module.Funcs[0].Code = []byte{0, 0, 99}
		isRefused(t, x.about+", behind a part ahead", "c", 2, api.ErrOp, bad, x.bad, more)
	}
	for _, s := range []string{"call 2; pop; return", "call 0; return", "new 0; get 0 0; pop; return", "return; call 2; new 0; trap 1"} {
		linked(t, "w", text(s), more)
	}
	isRefused(t, "a class that no part has", "a", 0, api.ErrMember, part("a", fun(t, "f", "new 0", sig(0))))
	isRefused(t, "a class of another part alone", "a", 0, api.ErrMember, part("a", fun(t, "f", "new 0; pop; return", sig(0))), more)
}

func TestP18_1WhatInferSays(t *testing.T) {
	p := class("p", -1, "x", api.TInt)
	a := having(part("a", fun(t, "f", "return", sig(0)), fun(t, "g", "return", sig(0))), p)
	for text, x := range map[string]api.Fault{
		"nop; add; return":                      {At: 1, Why: api.ErrUnder},
		"int 1; not; return":                    {At: 5, Why: api.ErrWant},
		"int 1; return":                         {At: 5, Why: api.ErrResult},
		"null; get 1 1; pop; return":            {At: 1, Why: api.ErrMember},
		"nop; load 0; return":                   {At: 1, Why: api.ErrSlot},
		"nop; jump 90":                          {At: 1, Why: api.ErrTarget},
		"nop; nop":                              {At: 1, Why: api.ErrOff},
		"jump 1":                                {At: 1, Why: api.ErrOverlap},
		"int 1; jump 0":                         {At: 0, Why: api.ErrShape},
		strings.Repeat("null; ", 25) + "trap 1": {At: 24, Why: api.ErrOver},
		"new 0; int 1; call 1; return":          {At: 7, Why: api.ErrWant},
		"new 1; bool 1; put 1 0; return":        {At: 4, Why: api.ErrWant},
		"new 0; get 1 0; pop; return":           {At: 2, Why: api.ErrWant},
		"call 3; return":                        {At: 0, Why: api.ErrUnder},
	} {
		b := part("b", fun(t, "h", "return", sig(0)), fun(t, "i", "return", sig(0, api.TClass)), fun(t, "j", text, sig(0)))
		b = needs(having(b, class("q", -1), p), api.Import{Name: "k", Sig: sig(0, api.TInt)})
		c := part("c", fun(t, "k", "return", sig(0, api.TInt)))
		isRefused(t, text, "b", x.At, x.Why, a, b, c)
		isRefused(t, text+", in another order", "b", x.At, x.Why, c, b, a)
		late := part("d", fun(t, "l", "pop", sig(0)))
		isRefused(t, text+", and another one behind", "b", x.At, x.Why, a, b, c, late)
		isRefused(t, text+", and another one ahead", "d", 0, api.ErrUnder, late, a, b, c)
	}
}

func TestP18_1CodeIsTurned(t *testing.T) {
	p, q := class("p", -1, "x", api.TInt, "y", api.TInt), class("q", -1, "n", api.TAny)
	all := "new 0; cast 0; dup; test 0; pop; dup; get 0 1; pop; int 4; put 0 1; call 1; call 2; call 0; jump 0; int 352321536; load 0; trap 21; return"
	a := needs(having(part("a", fun(t, "f", all, sig(0)), fun(t, "g", "return", sig(0))), p), api.Import{Name: "h", Sig: sig(0)})
	a.Module.Funcs[0].Locals = 1
	b := having(part("b", fun(t, "i", "return", sig(0)), fun(t, "h", "new 1; pop; return", sig(0))), q, p)
	m := linked(t, "w", b, a)
	want := "new 1; cast 1; dup; test 1; pop; dup; get 1 1; pop; int 4; put 1 1; call 3; call 1; call 2; jump 0; int 352321536; load 0; trap 21; return"
	if !bytes.Equal(m.Funcs[2].Code, assembled(t, want)) || m.Funcs[2].Locals != 1 {
		t.Error(m.Funcs[2])
	}
	m = linked(t, "w", a, b)
	want = strings.NewReplacer("call 2", "call 3").Replace(all)
	if !bytes.Equal(m.Funcs[0].Code, assembled(t, want)) || !bytes.Equal(m.Funcs[3].Code, assembled(t, "new 0; pop; return")) {
		t.Error(m.Funcs)
	}
}

func TestP18_1CertificatesPlayNoPart(t *testing.T) {
	a, b := two(t)
	want := linked(t, "w", a, b)
	a.Module.Certs = [][]byte{{1, 2, 3}}
	b.Module.Certs = linked(t, "w", b).Certs
	if m := linked(t, "w", a, b); show(m) != show(want) {
		t.Error(m)
	}
}

func TestP18_1HeldAgainstTheWords(t *testing.T) {
	d, came := dice(1), map[api.Errno]int{}
	for range 3000 {
		l := split(&d, whole(t, &d), 1+d.Below(4))
		if !isTold(t, "w", l) {
			t.Fatal("they don't link", show(l))
		}
		for range 6 {
			bad := spoilt(&d, l)
			for range d.Below(2) {
				bad = spoilt(&d, bad)
			}
			isTold(t, "w", bad)
			_, x := told("w", bad)
			came[x.Fault.Why]++
		}
	}
	for _, why := range []api.Errno{api.OK, api.ErrName, api.ErrShort, api.ErrTwice, api.ErrType, api.ErrCerts, api.ErrClash, api.ErrImport, api.ErrSig, api.ErrFunc, api.ErrMember, api.ErrOp, api.ErrWant, api.ErrUnder} {
		if came[why] < 20 {
			t.Error(why, "hardly comes", came)
		}
	}
}

func TestP18_2Alone(t *testing.T) {
	d := dice(2)
	for range 500 {
		m := whole(t, &d)
		p := link.Alone(m)
		if len(p.Imports) > 0 || len(p.Module.Certs) > 0 {
			t.Fatal(p)
		}
		want := m
		want.Certs = nil
		if show(p.Module) != show(want) {
			t.Fatal(p, m)
		}
	}
	for _, m := range []api.Module{{}, {Name: "1", Classes: samples.Chain(40), Funcs: make([]api.Func, 70), Certs: make([][]byte, 3)}} {
		if p := link.Alone(m); p.Module.Name != m.Name || len(p.Module.Classes) != len(m.Classes) || len(p.Module.Funcs) != len(m.Funcs) || len(p.Module.Certs) > 0 {
			t.Error(p)
		}
	}
}

func TestP18_2Free(t *testing.T) {
	x, y, z := api.Import{Name: "x"}, api.Import{Name: "y"}, api.Import{Name: "z"}
	isFree := func(about string, p api.Part, want []int, fn int, why api.Errno) {
		t.Helper()
		if l, n, e := link.Free(p); !slices.Equal(l, want) || n != fn || e != why {
			t.Errorf("%s: %v %d %v", about, l, n, e)
		}
	}
	f := func(texts ...string) api.Part {
		p := part("a")
		for _, s := range texts {
			p.Module.Funcs = append(p.Module.Funcs, fun(t, "f", s, sig(0)))
		}
		return needs(p, x, y, z)
	}
	isFree("none", f("return"), nil, 0, api.OK)
	isFree("its own", f("call 0; call 1", "call 1; call 0"), nil, 0, api.OK)
	isFree("rising, each once", f("call 3; call 1", "int 1; call 4; call 3; call 2", "call 5; call 0"), []int{0, 1, 2}, 0, api.OK)
	isFree("some", f("call 4; call 2; call 4", "nop"), []int{0, 2}, 0, api.OK)
	isFree("behind the end too", f("return; call 2"), []int{1}, 0, api.OK)
	isFree("numbers that are none", f("call 4; call 255; call 3; call 1"), []int{0, 2}, 0, api.OK)
	isFree("no call", f("load 1; trap 2; jump 3; int 21"), nil, 0, api.OK)
	isFree("nothing", api.Part{}, nil, 0, api.OK)
	isFree("imports alone", needs(part("a"), x), nil, 0, api.OK)
	bad := f("call 3", "call 3", "call 4")
	bad.Module.Funcs[2].Code = []byte{21}
	isFree("cut", bad, nil, 2, api.ErrShort)
	bad.Module.Funcs[1].Code = []byte{0, 34}
	isFree("the first one", bad, nil, 1, api.ErrOp)
	bad.Module.Funcs[0].Code = make([]byte, 4097)
	isFree("too long", bad, nil, 0, api.ErrLong)
	bad.Module.Funcs[0].Code = nil
	isFree("no code is no error", bad, nil, 1, api.ErrOp)
	huge := api.Part{Module: api.Module{Funcs: make([]api.Func, 200)}, Imports: make([]api.Import, 5000)}
	huge.Module.Funcs[199].Code = []byte{21, 255, 21, 200, 21, 199}
	isFree("a part that may not be", huge, []int{0, 55}, 0, api.OK)
}
