package link_test

import (
	"bytes"
	"errors"
	"fmt"
	"slices"
	"strconv"
	"testing"

	"proviso/api"
	"proviso/code"
	"proviso/flow"
	"proviso/gen"
	"proviso/infer"
	"proviso/link"
	"proviso/samples"
)

type dice = samples.Dice

func pick[T any](d *dice, l []T) T { return l[d.Below(len(l))] }

// show is all fields of a thing; an empty list is none.
func show(m any) string { return fmt.Sprintf("%+v", m) }

// assembled is the code of a text that must have one.
func assembled(t *testing.T, text string) []byte {
	t.Helper()
	b, is := samples.Assembled(text)
	if !is {
		t.Fatal("no code: ", text)
	}
	return b
}

func sig(result api.Type, params ...api.Type) api.Sig { return api.Sig{Params: params, Result: result} }

// fun is a function of a text, with as many locals as it takes.
func fun(t *testing.T, name, text string, s api.Sig) api.Func {
	t.Helper()
	return api.Func{Name: name, Sig: s, Locals: len(s.Params), Code: assembled(t, text)}
}

// part is one of functions, without classes and imports.
func part(name string, l ...api.Func) api.Part {
	return api.Part{Module: api.Module{Name: name, Funcs: l}}
}

// needs is a part with imports.
func needs(p api.Part, l ...api.Import) api.Part {
	p.Imports = append(slices.Clip(p.Imports), l...)
	return p
}

// having is a part with classes.
func having(p api.Part, l ...api.Class) api.Part {
	p.Module.Classes = append(slices.Clip(p.Module.Classes), l...)
	return p
}

// class is one; fields are a name and a type by turns.
func class(name string, parent int, fields ...any) api.Class {
	c := api.Class{Name: name, Parent: parent}
	for i := 0; i < len(fields); i += 2 {
		c.Fields = append(c.Fields, api.Field{Name: fields[i].(string), Type: fields[i+1].(api.Type)})
	}
	return c
}

// numbered are n functions that do nothing, of names from one on.
func numbered(prefix string, from, n int) []api.Func {
	var l []api.Func
	for i := range n {
		l = append(l, api.Func{Name: prefix + strconv.Itoa(from+i), Code: []byte{api.OpReturn}})
	}
	return l
}

// copied are parts that share nothing with others, nor have room behind their lists' ends.
func copied(l []api.Part) []api.Part {
	var all []api.Part
	for _, p := range l {
		q := api.Part{Module: api.Module{Name: p.Module.Name}}
		for _, c := range p.Module.Classes {
			c.Fields = append([]api.Field(nil), c.Fields...)
			q.Module.Classes = append(q.Module.Classes, c)
		}
		for _, f := range p.Module.Funcs {
			f.Sig.Params = append([]api.Type(nil), f.Sig.Params...)
			f.Code = bytes.Clone(f.Code)
			q.Module.Funcs = append(q.Module.Funcs, f)
		}
		for _, c := range p.Module.Certs {
			q.Module.Certs = append(q.Module.Certs, bytes.Clone(c))
		}
		for _, x := range p.Imports {
			x.Sig.Params = append([]api.Type(nil), x.Sig.Params...)
			q.Imports = append(q.Imports, x)
		}
		all = append(all, q)
	}
	return all
}

// linked is the module of parts that must have one.
func linked(t *testing.T, name string, l ...api.Part) api.Module {
	t.Helper()
	m, err := link.Link(name, l)
	if err != nil {
		t.Fatalf("%.2000s\n%v", show(l), err)
	}
	return m
}

// troubleOf is the trouble that an error is, as a value; beside one the module must be zero.
func troubleOf(t *testing.T, m api.Module, err error) api.Trouble {
	t.Helper()
	if err == nil {
		return api.Trouble{}
	}
	x, is := err.(api.Trouble)
	var f api.Fault
	if !is || x.Fault.Why == api.OK || !errors.Is(err, x.Fault.Why) || !errors.As(err, &f) || f != x.Fault {
		t.Fatalf("no trouble: %v", err)
	}
	for why := api.Errno(1); why < 300; why++ {
		if errors.Is(err, why) != (why == x.Fault.Why) {
			t.Fatalf("another number is found: %v", why)
		}
	}
	if show(m) != show(api.Module{}) {
		t.Fatalf("a module beside %v: %v", x, m)
	}
	return x
}

// isRefused holds Link against a trouble.
func isRefused(t *testing.T, about, in string, at int, why api.Errno, l ...api.Part) {
	t.Helper()
	m, err := link.Link("w", l)
	want := api.Trouble{In: in, Fault: api.Fault{At: at, Why: why}}
	if x := troubleOf(t, m, err); x != want {
		t.Errorf("%s: %+v, wanted %+v", about, x, want)
	}
	isTold(t, "w", l)
}

// isTold holds Link against the words: whether it takes the parts.
func isTold(t *testing.T, name string, l []api.Part) bool {
	t.Helper()
	want, trouble := told(name, l)
	m, err := link.Link(name, l)
	if x := troubleOf(t, m, err); x != trouble || show(m) != show(want) {
		t.Fatalf("%.3000s\n%+v %.1000s\nwanted\n%+v %.1000s", show(l), x, show(m), trouble, show(want))
	}
	return err == nil
}

// whole is a module that infer takes, of sound code or of a source text.
func whole(t *testing.T, d *dice) api.Module {
	t.Helper()
	if d.Below(2) == 0 {
		return samples.Module(d, 1+d.Below(6))
	}
	m, err := gen.Compile("m", samples.Source(d, 1+d.Below(10)))
	if err != nil {
		t.Fatal(err)
	}
	m, _, _, _ = infer.Module(m)
	return m
}

// splitter takes a module apart.
type splitter struct {
	d    *dice
	m    api.Module
	home []int // by function: its part
}

// split are parts of a module that link into one that does the same: each has some of the functions, those classes that it needs, and perhaps others, in an order of its own, and imports.
func split(d *dice, m api.Module, n int) []api.Part {
	s := splitter{d: d, m: m}
	for range m.Funcs {
		s.home = append(s.home, d.Below(n))
	}
	var l []api.Part
	for i := range n {
		l = append(l, s.part(i))
	}
	return l
}

func shuffled(d *dice, l []int) []int {
	for i := range l {
		j := d.Below(i + 1)
		l[i], l[j] = l[j], l[i]
	}
	return l
}

func (s splitter) part(home int) api.Part {
	var own, others []int
	for fn, h := range s.home {
		if h == home {
			own = append(own, fn)
		}
	}
	own = shuffled(s.d, own)
	need := map[int]bool{}
	for _, fn := range own {
		l, _, _ := flow.Scan(s.m.Funcs[fn].Code)
		for _, in := range l {
			switch in.Op {
			case api.OpCall:
				if s.home[in.A] != home {
					others = append(others, in.A)
				}
			case api.OpNew, api.OpGet, api.OpPut, api.OpCast, api.OpTest:
				need[in.A] = true
			}
		}
	}
	for fn, h := range s.home {
		if h != home && s.d.Below(9) == 0 {
			others = append(others, fn) // nobody calls it
		}
	}
	slices.Sort(others)
	calls := append(own, shuffled(s.d, slices.Compact(others))...)
	for _, fn := range calls {
		s.needSig(need, s.m.Funcs[fn].Sig)
	}
	for c := range s.m.Classes {
		need[c] = need[c] || s.d.Below(6) == 0
	}
	return s.made(home, len(own), calls, s.ordered(need))
}

func (s splitter) needSig(need map[int]bool, x api.Sig) {
	for _, t := range append(slices.Clip(x.Params), x.Result) {
		if t >= api.TClass {
			need[int(t-api.TClass)] = true
		}
	}
}

// ordered are the classes that are needed, and those that these need, each behind its parent.
func (s splitter) ordered(need map[int]bool) []int {
	for range s.m.Classes {
		for c, k := range s.m.Classes {
			if !need[c] {
				continue
			}
			if k.Parent >= 0 {
				need[k.Parent] = true
			}
			for _, f := range k.Fields {
				s.needSig(need, api.Sig{Result: f.Type})
			}
		}
	}
	var l, left []int
	for c := range s.m.Classes {
		if need[c] {
			left = append(left, c)
		}
	}
	for len(left) > 0 {
		i := s.d.Below(len(left))
		if p := s.m.Classes[left[i]].Parent; p < 0 || slices.Contains(l, p) {
			l = append(l, left[i])
			left = slices.Delete(left, i, i+1)
		}
	}
	return l
}

// made is a part with some functions of the module, imports behind them, and some classes.
func (s splitter) made(home, own int, calls, classes []int) api.Part {
	turned := func(t api.Type) api.Type {
		if t < api.TClass {
			return t
		}
		return api.TClass + api.Type(slices.Index(classes, int(t-api.TClass)))
	}
	p := part("part" + strconv.Itoa(home))
	for _, c := range classes {
		k := s.m.Classes[c]
		k.Fields = slices.Clone(k.Fields)
		for i := range k.Fields {
			k.Fields[i].Type = turned(k.Fields[i].Type)
		}
		if k.Parent >= 0 {
			k.Parent = slices.Index(classes, k.Parent)
		}
		p.Module.Classes = append(p.Module.Classes, k)
	}
	for i, fn := range calls {
		f := s.m.Funcs[fn]
		f.Sig.Params = slices.Clone(f.Sig.Params)
		for i := range f.Sig.Params {
			f.Sig.Params[i] = turned(f.Sig.Params[i])
		}
		f.Sig.Result = turned(f.Sig.Result)
		if i >= own {
			p.Imports = append(p.Imports, api.Import{Name: f.Name, Sig: f.Sig})
			continue
		}
		l, _, _ := flow.Scan(f.Code)
		for i, in := range l {
			switch in.Op {
			case api.OpCall:
				l[i].A = slices.Index(calls, in.A)
			case api.OpNew, api.OpGet, api.OpPut, api.OpCast, api.OpTest:
				l[i].A = slices.Index(classes, in.A)
			}
		}
		f.Code, _, _ = code.All(l)
		p.Module.Funcs = append(p.Module.Funcs, f)
	}
	return p
}

// spoilt are parts in one of which something is another one.
func spoilt(d *dice, l []api.Part) []api.Part {
	l = copied(l)
	p := &l[d.Below(len(l))]
	names := []string{"", "m", "part0", "part1", "f0", "f1", "p0", "shape", "x", "any"}
	some := api.Type(d.Below(22))
	if n := len(p.Module.Funcs); n > 0 {
		f := &p.Module.Funcs[d.Below(n)]
		switch d.Below(14) {
		case 0, 1, 2:
			f.Code = samples.Turned(d, f.Code)
		case 3:
			f.Name = pick(d, names)
		case 4:
			f.Sig.Result = some
		case 5:
			f.Sig.Params, f.Locals = append(f.Sig.Params, some), f.Locals+1
		case 6:
			f.Locals = d.Below(18)
		case 7:
			p.Module.Funcs = append(p.Module.Funcs, *f)
		}
	}
	if n := len(p.Imports); n > 0 {
		x := &p.Imports[d.Below(n)]
		switch d.Below(14) {
		case 0:
			x.Name = pick(d, names)
		case 1:
			x.Sig.Result = some
		case 2:
			x.Sig.Params = append(x.Sig.Params, some)
		case 3:
			p.Imports = append(p.Imports, *x)
		case 4:
			p.Imports = p.Imports[:n-1]
		}
	}
	if n := len(p.Module.Classes); n > 0 {
		c := &p.Module.Classes[d.Below(n)]
		switch d.Below(14) {
		case 0:
			c.Name = pick(d, names)
		case 1:
			c.Parent = d.Below(n+2) - 2
		case 2:
			c.Fields = append(c.Fields, api.Field{Name: pick(d, names), Type: some})
		case 3:
			for i := range c.Fields {
				c.Fields[i].Type = some
			}
		case 4:
			c.Fields = nil
		case 5:
			slices.Reverse(c.Fields)
		}
	}
	switch d.Below(30) {
	case 0:
		p.Module.Name = pick(d, names)
	case 1:
		p.Module.Certs = make([][]byte, d.Below(3))
	case 2:
		l = append(l, *p)
	}
	return l
}
