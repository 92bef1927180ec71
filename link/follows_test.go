package link_test

import (
	"bytes"
	"slices"
	"strconv"
	"strings"
	"testing"

	"proviso/api"
	"proviso/flow"
	"proviso/gen"
	"proviso/infer"
	"proviso/link"
	"proviso/machine"
	"proviso/meaning"
	"proviso/module"
	"proviso/onepass"
	"proviso/samples"
)

// renamed is a module with another name.
func renamed(m api.Module, name string) api.Module {
	m.Name = name
	return m
}

// takenParts yields parts that Link takes, with the module, as the dice fall.
func takenParts(t *testing.T, seed dice, n int) func(yield func(l []api.Part, m api.Module) bool) {
	return func(yield func(l []api.Part, m api.Module) bool) {
		d := seed
		for range n {
			l := split(&d, whole(t, &d), 1+d.Below(4))
			for _, l := range [][]api.Part{l, spoilt(&d, l)} {
				if m, err := link.Link("w", l); err == nil && !yield(l, m) {
					return
				}
			}
		}
	}
}

func TestP18_3ItMayBe(t *testing.T) {
	came := 0
	for l, m := range takenParts(t, 3, 1500) {
		if at, why := module.Check(m); at != 0 || why != api.OK {
			t.Fatal(show(l), at, why)
		}
		for fn, f := range m.Funcs {
			e, _ := infer.Env(m, fn)
			if p, at, why := infer.Emit(e, f.Locals, f.Code); why != api.OK || !bytes.Equal(p, m.Certs[fn]) {
				t.Fatal(show(l), fn, at, why)
			}
		}
		if fn, at, why := onepass.Module(m); len(m.Funcs) > 0 && why != api.OK {
			t.Fatal("P2 of the whole", show(l), fn, at, why)
		}
		if len(m.Certs) != len(m.Funcs) || m.Name != "w" {
			t.Fatal(show(m))
		}
		came++
	}
	if came < 1800 {
		t.Error("few", came)
	}
}

// As many jumps as there may be, each with a frame of all slots: the certificates are none too long.
func TestP18_3TheLongestCertificates(t *testing.T) {
	text := "new 0; " + strings.Repeat("dup; ", 7)
	b := assembled(t, text)
	for at := len(b); len(b)+3 <= 4094; at += 3 {
		b = append(b, api.OpJump, byte((at+3)>>8), byte(at+3))
	}
	b = append(b, api.OpTrap, 1)
	p := having(part("a", api.Func{Name: "f", Locals: 16, Code: b}), class("p", -1))
	m := linked(t, "w", p)
	if at, why := module.Check(m); why != api.OK || len(m.Certs[0]) < 30000 {
		t.Error(at, why, len(m.Certs[0]))
	}
}

func TestP18_4Alone(t *testing.T) {
	d, came, refused := dice(4), 0, 0
	for range 2000 {
		m := whole(t, &d)
		if d.Below(2) == 0 {
			m = spoilt(&d, []api.Part{link.Alone(m)})[0].Module
			m.Certs = nil
		}
		want, _, _, why := infer.Module(m)
		got, err := link.Link("w", []api.Part{{Module: m}})
		if err != nil {
			troubleOf(t, got, err)
			refused++
			continue
		}
		if came++; why != api.OK || show(got) != show(renamed(want, "w")) {
			t.Fatal(show(m), show(got), why)
		}
	}
	if came < 1000 || refused < 200 {
		t.Error("few", came, refused)
	}
}

func TestP18_5LinkedAgain(t *testing.T) {
	for l, m := range takenParts(t, 5, 1200) {
		again, err := link.Link("again", []api.Part{link.Alone(m)})
		if err != nil || show(again) != show(renamed(m, "again")) {
			t.Fatal(show(l), show(m), show(again), err)
		}
	}
}

// entryOf is the number of a function that must be there.
func entryOf(t *testing.T, m api.Module, name string) int {
	t.Helper()
	n, is := module.Entry(m, name)
	if !is {
		t.Fatal("no function", name, show(m))
	}
	return n
}

// runs holds the functions of some names of two modules against each other: how many runs these were.
func runs(t *testing.T, d *dice, a, b api.Module, names []string) int {
	t.Helper()
	came := 0
	for _, name := range names {
		i, j := entryOf(t, a, name), entryOf(t, b, name)
		var args []int
		for range a.Funcs[i].Sig.Params {
			args = append(args, d.Below(2))
		}
		fuel, room := d.Below(800), d.Below(60)
		x, y := machine.Guarded(a, i, args, fuel, room), machine.Guarded(b, j, args, fuel, room)
		if show(x) != show(y) {
			t.Fatalf("%s of\n%.2000s\n%.2000s\n%+v\n%+v", name, show(a), show(b), x, y)
		}
		if meaning.Admits(a.Funcs[i].Sig, args) {
			came++
		}
	}
	return came
}

func funcNames(m api.Module) []string { return calls(api.Part{Module: m}) }

// byItself are the functions of a part whose code calls none of its imports, nor any function that does.
func byItself(p api.Part) []string {
	own := p.Module.Funcs
	calls := make([]bool, len(own)) // it does, be it over others
	for range own {
		for i, f := range own {
			l, _, _ := flow.Scan(f.Code)
			for _, in := range l {
				if in.Op == api.OpCall && (in.A >= len(own) || calls[in.A]) {
					calls[i] = true
				}
			}
		}
	}
	var l []string
	for i, f := range own {
		if !calls[i] {
			l = append(l, f.Name)
		}
	}
	return l
}

func TestP18_6TheSameRuns(t *testing.T) {
	d, came, whole := dice(6), 0, 0
	for l, m := range takenParts(t, 7, 2500) {
		for _, p := range l {
			n := runs(t, &d, p.Module, m, byItself(p))
			if came += n; len(l) > 1 && len(p.Imports) > 0 {
				whole += n
			}
		}
	}
	if came < 4000 || whole < 300 {
		t.Error("few", came, whole)
	}
}

// TestP8Linked: a module that was taken apart and linked does what it did.
func TestP8Linked(t *testing.T) {
	d, came := dice(8), 0
	for range 1500 {
		m := whole(t, &d)
		l := split(&d, m, 1+d.Below(4))
		w := linked(t, "w", l...)
		came += runs(t, &d, m, w, funcNames(m))
		if len(m.Funcs) > 0 {
			n := d.Below(len(m.Funcs))
			i := entryOf(t, w, m.Funcs[n].Name)
			var args []int
			for range m.Funcs[n].Sig.Params {
				args = append(args, d.Below(2))
			}
			if a, b := machine.Bare(m, n, args, 500, 50), machine.Bare(w, i, args, 500, 50); show(a) != show(b) {
				t.Fatal(show(m), show(w), a, b)
			}
		}
	}
	if came < 2500 {
		t.Error("few", came)
	}
}

func TestP18_7InWhateverOrder(t *testing.T) {
	d, taken, refused, came := dice(9), 0, 0, 0
	for range 2500 {
		l := split(&d, whole(t, &d), 2+d.Below(3))
		for range d.Below(3) {
			l = spoilt(&d, l)
		}
		m, err := link.Link("w", l)
		for range 3 {
			var other []api.Part
			for _, i := range shuffled(&d, []int{0, 1, 2, 3, 4, 5, 6}) {
				if i < len(l) {
					other = append(other, l[i])
				}
			}
			n, e := link.Link("w", other)
			if (err == nil) != (e == nil) {
				t.Fatal(show(l), err, e)
			}
			if e == nil {
				came += runs(t, &d, m, n, funcNames(m))
				if len(m.Funcs) != len(n.Funcs) || len(m.Classes) != len(n.Classes) {
					t.Fatal(show(l))
				}
			}
		}
		if err == nil {
			taken++
		} else {
			refused++
		}
	}
	if taken < 800 || refused < 300 || came < 4000 {
		t.Error("few", taken, refused, came)
	}
}

// A text's functions, each in a part of its own, come to what the text means.
func TestP18_7EachFunctionInItsPart(t *testing.T) {
	src := `record node { v int, next node } record pair : node { w int }
		fun push(n node, v int) node { var a node = new node; a.v = v; a.next = n; return a; }
		fun sum(n node) int { if n == null { return 0; } return n.v + sum(n.next); }
		fun twice(n node) int { if n is pair { return (n as pair).w; } return sum(n) + sum(n); }
		fun main(k int) int { var n node = null; while k > 0 { n = push(n, k); k = k - 1; } tell sum(n); var p pair = new pair; p.w = 7; tell twice(p); return twice(n); }`
	m, err := gen.Compile("m", src)
	if err != nil {
		t.Fatal(err)
	}
	d := dice(10)
	want := machine.Guarded(m, 3, []int{5}, 9999, 99)
	if want.Err != api.OK || want.Result != 30 || !slices.Equal(want.Told, []int{15, 7}) {
		t.Fatal(want)
	}
	for range 200 {
		s := splitter{&d, m, shuffled(&d, []int{0, 1, 2, 3})}
		w := linked(t, "w", s.part(0), s.part(1), s.part(2), s.part(3))
		if o := machine.Guarded(w, entryOf(t, w, "main"), []int{5}, 9999, 99); show(o) != show(want) {
			t.Fatal(o, show(w))
		}
	}
}

func TestTheSameAgain(t *testing.T) {
	d := dice(11)
	for range 300 {
		l := split(&d, whole(t, &d), 3)
		want := show(linked(t, "w", l...))
		link.Link("x", spoilt(&d, l))
		if show(linked(t, "w", l...)) != want {
			t.Fatal(show(l))
		}
	}
}

func TestNothingHandedInIsChanged(t *testing.T) {
	d := dice(12)
	for range 800 {
		l := split(&d, whole(t, &d), 3)
		if d.Below(2) == 0 {
			l = spoilt(&d, l)
		}
		before := show(l)
		m, err := link.Link("w", l)
		for _, p := range l {
			link.Free(p)
			link.Alone(p.Module)
		}
		if show(l) != before {
			t.Fatal(before)
		}
		if err != nil {
			continue
		}
		want := show(m) // nor is it kept
		for _, p := range l {
			overwrite(p.Module)
			for i := range p.Imports {
				samples.Overwrite(p.Imports[i].Sig.Params, 77)
			}
			samples.Overwrite(p.Imports, api.Import{Name: "spoilt"})
		}
		samples.Overwrite(l, api.Part{})
		if show(m) != want {
			t.Fatal("the module shares memory with a part", want)
		}
	}
}

// overwrite writes over all lists of a module.
func overwrite(m api.Module) {
	for i := range m.Classes {
		samples.Overwrite(m.Classes[i].Fields, api.Field{Name: "spoilt"})
	}
	for i := range m.Funcs {
		samples.Overwrite(m.Funcs[i].Code, 77)
		samples.Overwrite(m.Funcs[i].Sig.Params, 77)
	}
	for i := range m.Certs {
		samples.Overwrite(m.Certs[i], 77)
	}
	samples.Overwrite(m.Classes, api.Class{Name: "spoilt"})
	samples.Overwrite(m.Funcs, api.Func{Name: "spoilt"})
	samples.Overwrite(m.Certs, []byte{77})
}

// isApart holds that no two lists of a module share memory: each is spoilt and then put right by another answer's, so what is still wrong has shared it.
func isApart(t *testing.T, one, two api.Module) {
	t.Helper()
	want := show(two)
	for i := range one.Classes {
		samples.Overwrite(one.Classes[i].Fields, api.Field{Name: "spoilt"})
		one.Classes[i].Fields = two.Classes[i].Fields
		if show(one) != want {
			t.Fatal("shared within an answer")
		}
	}
	for i := range one.Funcs {
		samples.Overwrite(one.Funcs[i].Code, 77)
		samples.Overwrite(one.Funcs[i].Sig.Params, 77)
		one.Funcs[i].Code, one.Funcs[i].Sig.Params = two.Funcs[i].Code, two.Funcs[i].Sig.Params
		if show(one) != want {
			t.Fatal("shared within an answer")
		}
	}
	for i := range one.Certs {
		samples.Overwrite(one.Certs[i], 77)
		one.Certs[i] = two.Certs[i]
		if show(one) != want {
			t.Fatal("shared within an answer")
		}
	}
	if show(two) != want {
		t.Fatal("two answers share memory")
	}
}

func TestAnswersAreNewMemory(t *testing.T) {
	d := dice(13)
	for range 300 {
		l := split(&d, whole(t, &d), 3)
		before := show(l)
		isApart(t, linked(t, "w", l...), linked(t, "w", l...))
		if show(l) != before {
			t.Fatal("the module shares memory with a part")
		}
		m := linked(t, "w", l...)
		want := show(m)
		isApart(t, link.Alone(m).Module, link.Alone(m).Module)
		p := link.Alone(m)
		overwrite(p.Module)
		if show(m) != want {
			t.Fatal("the part shares memory with its module")
		}
		for _, p := range l {
			a, _, _ := link.Free(p)
			b, _, _ := link.Free(p)
			samples.Overwrite(a, 77)
			if slices.Contains(b, 77) || show(l) != before {
				t.Fatal("shared")
			}
		}
	}
}

func TestRoomBehindTheEndIsNotRead(t *testing.T) {
	a, b := two(t)
	want := show(linked(t, "w", a, b))
	l := copied([]api.Part{a, b, a})
	for i := range l {
		m := &l[i].Module
		m.Classes = append(m.Classes, api.Class{Name: "1"})[:len(m.Classes)]
		m.Funcs = append(m.Funcs, api.Func{Name: "1"})[:len(m.Funcs)]
		m.Certs = append(m.Certs, nil)[:0]
		f := &m.Funcs[0]
		f.Code = append(f.Code, 255)[:len(f.Code)]
		f.Sig.Params = append(f.Sig.Params, 99)[:0]
		l[i].Imports = append(l[i].Imports, api.Import{Name: "1"})[:len(l[i].Imports)]
	}
	if m := linked(t, "w", l[:2]...); show(m) != want {
		t.Error(m)
	}
	p := l[0]
	p.Module.Funcs[0].Code = assembled(t, "call 1; call 2; return")
	if free, _, why := link.Free(p); !slices.Equal(free, []int{0}) || why != api.OK {
		t.Error(free, why)
	}
}

func TestNilAndEmptyListsAreOne(t *testing.T) {
	a, b := two(t)
	want := show(linked(t, "w", a, b))
	l := copied([]api.Part{a, b})
	for i := range l {
		l[i].Module.Classes, l[i].Module.Certs = []api.Class{}, [][]byte{}
		l[i].Module.Funcs[0].Sig.Params = []api.Type{}
		if l[i].Imports == nil {
			l[i].Imports = []api.Import{}
		}
	}
	l[0].Imports[0].Sig.Params = []api.Type{}
	if m := linked(t, "w", l...); show(m) != want {
		t.Error(m)
	}
	one, none := having(a, class("p", -1)), having(b, class("p", -1))
	none.Module.Classes[0].Fields = []api.Field{}
	if m := linked(t, "w", one, none); len(m.Classes) != 1 {
		t.Error(m)
	}
}

func TestAllEndsOfAllArguments(t *testing.T) {
	d := dice(14)
	for range 4000 {
		l := split(&d, whole(t, &d), 1+d.Below(3))
		for range 1 + d.Below(6) {
			l = spoilt(&d, l)
		}
		isTold(t, strings.Repeat("w", d.Below(3)), l)
		for _, p := range l {
			link.Free(p)
			link.Alone(p.Module)
		}
	}
	huge := api.Part{Module: api.Module{Name: "h", Classes: make([]api.Class, 5000), Funcs: make([]api.Func, 5000), Certs: make([][]byte, 5000)}, Imports: make([]api.Import, 5000)}
	for _, l := range [][]api.Part{{{}}, {{}, {}}, {huge}, {part("a"), huge}, make([]api.Part, 64), make([]api.Part, 100000), {needs(part("a"), huge.Imports...)}} {
		if isTold(t, "w", l) {
			t.Error("taken")
		}
	}
	many := part("m")
	for i := range 64 {
		f := api.Func{Name: "f" + strconv.Itoa(i), Locals: 16, Code: bytes.Repeat([]byte{api.OpCall, byte(i), api.OpNop}, 1365)}
		f.Code = append(f.Code, api.OpReturn)
		many.Module.Funcs = append(many.Module.Funcs, f)
	}
	if m := linked(t, "w", having(many, samples.Chain(32)...), having(part("n"), samples.Chain(32)...)); len(m.Funcs) != 64 {
		t.Error(len(m.Funcs))
	}
}
