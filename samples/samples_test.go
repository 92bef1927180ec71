package samples_test

import (
	"bytes"
	"slices"
	"testing"

	"proviso/api"
	"proviso/check"
	"proviso/frames"
	"proviso/infer"
	"proviso/module"
	"proviso/parse"
	"proviso/samples"
	"proviso/types"
)

func TestTheSameAtEveryRun(t *testing.T) {
	a, b := samples.Dice(5), samples.Dice(5)
	for range 100 {
		x := samples.Sound(&a, samples.World(1), 3, 9)
		y := samples.Sound(&b, samples.World(1), 3, 9)
		if !bytes.Equal(x, y) || !bytes.Equal(samples.Turned(&a, x), samples.Turned(&b, y)) || !bytes.Equal(samples.Anything(&a, 9), samples.Anything(&b, 9)) {
			t.Fatal(x, y)
		}
		if p, q := samples.Source(&a, 5), samples.Source(&b, 5); p != q {
			t.Fatal(p, q)
		}
		if p, q := samples.File(&a), samples.File(&b); !bytes.Equal(p, q) {
			t.Fatal(p, q)
		}
	}
}

func TestTheyCanBe(t *testing.T) {
	d := samples.Dice(7)
	for fn, s := range samples.World(0).Sigs {
		e := samples.World(fn)
		if why := infer.May(e, len(s.Params)); why != api.OK {
			t.Error(fn, why)
		}
		f, _ := frames.Start(e.Classes, s.Params, 5)
		if !frames.Sub(e.Classes, f, samples.Above(&d, e.Classes, f)) {
			t.Error(fn, f)
		}
	}
	for c := range 256 {
		if l := samples.Shapes(); types.Valid(l, api.Type(c)) != slices.Contains(samples.Valids(l), api.Type(c)) {
			t.Error(c)
		}
	}
	if _, why := types.Check(samples.Chain(api.MaxClasses)); why != api.OK || infer.May(samples.One(), 0) != api.OK {
		t.Error(why)
	}
}

func TestSoundCodeIsTakenMoreOftenThanNot(t *testing.T) {
	d, came := samples.Dice(11), 0
	for i := range 400 {
		e := samples.World(i % 4)
		if _, _, why := infer.Infer(e, 4, samples.Sound(&d, e, 4, 1+i%30)); why == api.OK {
			came++
		}
	}
	if came < 200 {
		t.Error(came)
	}
}

func TestSourcesAreTaken(t *testing.T) {
	d := samples.Dice(13)
	for i := range 1000 {
		text := samples.Source(&d, 1+i%9)
		p, err := parse.Parse(text)
		if err != nil {
			t.Fatal(text, err)
		}
		if _, err := check.Check(p); err != nil {
			t.Fatal(text, err)
		}
	}
}

func TestPartsAreAllThatIsThere(t *testing.T) {
	p, err := parse.Parse("fun f() { if true { tell 1 + 2; } else { while false { break; } } } fun g() { g(); }")
	if err != nil {
		t.Fatal(err)
	}
	stmts, exprs := samples.Parts(&p)
	var ops, kinds []int
	for _, s := range stmts {
		ops = append(ops, s.Op)
	}
	for _, e := range exprs {
		kinds = append(kinds, e.Op)
		e.Num = 7
	}
	if !slices.Equal(ops, []int{api.StIf, api.StTell, api.StWhile, api.StBreak, api.StCall}) || !slices.Equal(kinds, []int{api.ExBool, api.ExAdd, api.ExInt, api.ExInt, api.ExBool, api.ExCall}) {
		t.Error(ops, kinds)
	}
	if p.Funs[0].Body[0].Body[0].Exprs[0].Kids[1].Num != 7 {
		t.Error("another one's part was changed")
	}
}

func TestProgramsThatAreAlike(t *testing.T) {
	d := samples.Dice(17)
	for range 300 {
		p, _ := parse.Parse(samples.Source(&d, 5))
		l := samples.Alike(&d, p)
		for i, q := range l {
			if !parse.Same(p, q) {
				t.Fatal(i, parse.Print(p))
			}
		}
		samples.Spoil(&d, &l[1])
		if !parse.Same(p, l[0]) || !parse.Same(p, l[2]) {
			t.Fatal("they share memory")
		}
	}
}

func TestModulesAreTaken(t *testing.T) {
	d, outside := samples.Dice(19), 0
	for range 300 {
		m := samples.Module(&d, 1+d.Below(6))
		if _, why := module.Check(m); why != api.OK || len(m.Certs) != len(m.Funcs) {
			t.Fatal(m, why)
		}
		for i, f := range m.Funcs {
			e, _ := infer.Env(m, i)
			if p, _, why := infer.Emit(e, f.Locals, f.Code); why != api.OK || !bytes.Equal(p, m.Certs[i]) {
				t.Fatal(m, why)
			}
			if !slices.ContainsFunc(f.Sig.Params, types.IsRef) {
				outside++
			} else if i == 0 {
				t.Fatal("the first one takes a reference", m)
			}
		}
	}
	if outside < 400 {
		t.Error(outside)
	}
}

func TestAssembled(t *testing.T) {
	b, is := samples.Assembled(" int -2; get 1 2 ;; jump 300; nop;")
	if !is || !bytes.Equal(b, []byte{1, 255, 255, 255, 254, 24, 1, 2, 19, 1, 44, 0}) {
		t.Error(b, is)
	}
	if b, is := samples.Assembled(""); !is || len(b) > 0 {
		t.Error(b, is)
	}
	for _, text := range []string{"int x", "jmp 1", "get 1 2 3", "bool 2", "nop 1"} {
		if b, is := samples.Assembled(text); is {
			t.Error(text, b)
		}
	}
}

func TestOverwriteGoesBehindTheEnd(t *testing.T) {
	l := []int{1, 2, 3}
	if samples.Overwrite(l[:1], 7); !slices.Equal(l, []int{7, 7, 7}) {
		t.Error(l)
	}
}
