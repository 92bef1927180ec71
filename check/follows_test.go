package check_test

import (
	"errors"
	"fmt"
	"reflect"
	"slices"
	"strconv"
	"strings"
	"testing"

	"proviso/api"
	"proviso/check"
	"proviso/parse"
	"proviso/samples"
	"proviso/types"
)

// mixed are programs as the dice fall, some of which Check refuses.
func mixed(t *testing.T, seed, n int) []api.Program {
	d := dice(seed)
	var l []api.Program
	for i := range n {
		p := parsed(t, samples.Source(&d, 1+i%8))
		for range d.Below(3) {
			p = bent(&d, p)
		}
		if src := parse.Print(p); src != "" {
			l = append(l, parsed(t, src))
		}
	}
	return l
}

func TestP12_2Classes(t *testing.T) {
	p := good(t, "record p { x int, y q } fun f() { } record q : p { z any } record r { } record s : q { b bool, i ints }")
	want := []api.Class{
		{Name: "p", Parent: -1, Fields: []api.Field{{Name: "x", Type: api.TInt}, {Name: "y", Type: api.TClass + 1}}},
		{Name: "q", Parent: 0, Fields: []api.Field{{Name: "z", Type: api.TAny}}},
		{Name: "r", Parent: -1},
		{Name: "s", Parent: 1, Fields: []api.Field{{Name: "b", Type: api.TBool}, {Name: "i", Type: api.TInts}}},
	}
	if l := check.Classes(p); !alike(l, want) {
		t.Error(l)
	}
	if l := check.Classes(api.Program{}); len(l) > 0 {
		t.Error(l)
	}
}

func TestP12_2Sigs(t *testing.T) {
	p := good(t, "record p { } fun f() { } fun g(a int, b p, c any) bool { return true; } fun h(s ints) p { return null; }")
	want := []api.Sig{{}, {Params: []api.Type{api.TInt, api.TClass, api.TAny}, Result: api.TBool}, {Params: []api.Type{api.TInts}, Result: api.TClass}}
	if l := check.Sigs(p); !alike(l, want) {
		t.Error(l)
	}
	if l := check.Sigs(api.Program{}); len(l) > 0 {
		t.Error(l)
	}
}

func TestP12_2ClassesAndSigsOfAllThatIsTaken(t *testing.T) {
	for _, p := range mixed(t, 3, 2000) {
		q, f := checked(t, p)
		if f != (api.Fault{}) {
			continue
		}
		l, s := check.Classes(q), check.Sigs(q)
		if len(l) != len(p.Records) || len(s) != len(p.Funs) {
			t.Fatal(l, s)
		}
		for i, r := range q.Records {
			parent := slices.IndexFunc(q.Records, func(x api.Record) bool { return x.Name == r.Parent })
			c := api.Class{Name: r.Name, Parent: parent}
			for _, x := range r.Fields {
				c.Fields = append(c.Fields, api.Field{Name: x.Name, Type: x.Type})
			}
			if !alike(l[i], c) {
				t.Fatal(l[i], c)
			}
		}
		for i, x := range q.Funs {
			sig := api.Sig{Result: x.Result}
			for _, y := range x.Params {
				sig.Params = append(sig.Params, y.Type)
			}
			if !alike(s[i], sig) {
				t.Fatal(s[i], sig)
			}
		}
	}
}

func TestP12_2Entry(t *testing.T) {
	p := api.Program{Funs: []api.Fun{{Name: "a"}, {Name: "b"}, {Name: "a"}, {Name: ""}, {Name: "b"}}, Records: []api.Record{{Name: "r"}}}
	for name, want := range map[string]int{"a": 0, "b": 1, "": 3} {
		if n, is := check.Entry(p, name); n != want || !is {
			t.Error(name, n, is)
		}
	}
	for _, name := range []string{"r", "A", "a ", "c"} {
		if n, is := check.Entry(p, name); n != 0 || is {
			t.Error(name, n, is)
		}
	}
	if n, is := check.Entry(api.Program{}, ""); n != 0 || is {
		t.Error(n, is)
	}
}

func TestP12_2Ends(t *testing.T) {
	if check.Ends(nil) || check.Ends([]api.Stmt{}) {
		t.Error("none")
	}
	ended := []api.Stmt{{Op: api.StReturn}}
	for op := -1; op <= api.NumSt; op++ {
		if check.Ends([]api.Stmt{{Op: op}}) != (op == api.StReturn || op == api.StFail) {
			t.Error(op)
		}
		if check.Ends([]api.Stmt{{Op: api.StReturn}, {Op: op}}) != (op == api.StReturn || op == api.StFail) {
			t.Error(op)
		}
		if check.Ends([]api.Stmt{{Op: op, Body: ended, Else: ended}}) != (op == api.StReturn || op == api.StFail || op == api.StIf) {
			t.Error(op)
		}
	}
	d := dice(4)
	for range 2000 {
		if p := parsed(t, samples.Source(&d, 9)); check.Ends(p.Funs[0].Body) != ends(p.Funs[0].Body) {
			t.Fatal(p)
		}
	}
}

func TestP12_3TheTableMayBe(t *testing.T) {
	for _, p := range mixed(t, 5, 3000) {
		if q, f := checked(t, p); f == (api.Fault{}) {
			if c, why := types.Check(check.Classes(q)); c != 0 || why != api.OK {
				t.Fatal(q.Records, c, why)
			}
		}
	}
	q := good(t, row(32, "record p%d { a p31, b p0, c any, d ints, e bool, f int }", " "))
	if _, why := types.Check(check.Classes(q)); why != api.OK {
		t.Error(why)
	}
}

// renamed has another name for a variable or parameter of one function, or for a function.
func renamed(p api.Program, fn int, name, other string, call bool) api.Program {
	p.Funs = slices.Clone(p.Funs)
	for i := range p.Funs {
		f := &p.Funs[i]
		f.Params = slices.Clone(f.Params)
		f.Body = copiedStmts(f.Body)
		if call && f.Name == name {
			f.Name = other
		}
		if !call && i != fn {
			continue
		}
		for n := range f.Params {
			if !call && f.Params[n].Name == name {
				f.Params[n].Name = other
			}
		}
		renameStmts(f.Body, name, other, call)
	}
	return p
}

func renameStmts(l []api.Stmt, name, other string, call bool) {
	for i := range l {
		if !call && l[i].Op == api.StVar && l[i].Name == name {
			l[i].Name = other
		}
		renameExprs(l[i].Exprs, name, other, call)
		renameStmts(l[i].Body, name, other, call)
		renameStmts(l[i].Else, name, other, call)
	}
}

func renameExprs(l []api.Expr, name, other string, call bool) {
	for i := range l {
		if l[i].Name == name && (call && l[i].Op == api.ExCall || !call && l[i].Op == api.ExName) {
			l[i].Name = other
		}
		renameExprs(l[i].Kids, name, other, call)
	}
}

func TestP12_4NamesPlayNoPart(t *testing.T) {
	for i, p := range mixed(t, 6, 3000) {
		fn := i % len(p.Funs)
		name, call := "v"+strconv.Itoa(i%4), i%3 == 0
		if call {
			name = p.Funs[fn].Name
		}
		q, f := checked(t, p)
		r, g := checked(t, renamed(p, fn, name, "nowhere", call))
		if f != g || f == (api.Fault{}) && !alike(renamed(q, fn, name, "nowhere", call), r) {
			t.Fatalf("%s: %v, %v", parse.Print(p), f, g)
		}
	}
}

func TestP12_5CheckedTwice(t *testing.T) {
	for _, p := range mixed(t, 7, 3000) {
		q, f := checked(t, p)
		if f != (api.Fault{}) {
			continue
		}
		if r, f := checked(t, q); f != (api.Fault{}) || !alike(q, r) {
			t.Fatal(f, q, r)
		}
		if !parse.Same(p, q) {
			t.Fatal("what parse put in has changed")
		}
	}
}

// inBody tells whether a place is in the body of a function of a text in one form.
func inBody(p api.Program, fn, at int) bool {
	f := p.Funs[fn]
	head := f.At
	for _, x := range f.Params {
		head = max(head, x.At)
	}
	return at > head && (fn == len(p.Funs)-1 || at < p.Funs[fn+1].At)
}

func TestP12_6EachBodyByItself(t *testing.T) {
	tried := 0
	for _, p := range mixed(t, 8, 4000) {
		q, f := checked(t, p)
		for fn := range p.Funs {
			if p.Funs[fn].Of != "" || f != (api.Fault{}) && inBody(p, fn, f.At) {
				continue
			}
			less := p
			less.Funs = slices.Clone(p.Funs)
			less.Funs[fn].Body = nil
			r, g := checked(t, less)
			if f != g {
				t.Fatalf("%s: %v, %v", parse.Print(p), f, g)
			}
			for i := range r.Funs {
				if i != fn && !alike(r.Funs[i], q.Funs[i]) {
					t.Fatal(parse.Print(p))
				}
			}
			tried++
		}
	}
	if tried < 1000 {
		t.Error(tried)
	}
}

// lists are all of a value's, with their spare room.
func lists(v reflect.Value, all *[]reflect.Value) {
	switch v.Kind() {
	case reflect.Struct:
		for i := range v.NumField() {
			lists(v.Field(i), all)
		}
	case reflect.Slice:
		if v.Cap() > 0 {
			*all = append(*all, v.Slice(0, v.Cap()))
		}
		for i := range v.Len() {
			lists(v.Index(i), all)
		}
	}
}

// apart tells whether no two lists share any room.
func apart(all []reflect.Value) bool {
	slices.SortFunc(all, func(a, b reflect.Value) int { return int(a.Pointer()) - int(b.Pointer()) })
	for i := 1; i < len(all); i++ {
		if a := all[i-1]; a.Pointer()+uintptr(a.Cap())*a.Type().Elem().Size() > all[i].Pointer() {
			return false
		}
	}
	return true
}

// roomy gives each empty list spare room.
func roomy(v reflect.Value) {
	switch v.Kind() {
	case reflect.Struct:
		for i := range v.NumField() {
			roomy(v.Field(i))
		}
	case reflect.Slice:
		if v.Len() == 0 {
			v.Set(reflect.MakeSlice(v.Type(), 0, 2))
		}
		for i := range v.Len() {
			roomy(v.Index(i))
		}
	}
}

func TestAnswersAreNewMemory(t *testing.T) {
	d := dice(9)
	for range 300 {
		p := parsed(t, samples.Source(&d, 8))
		roomy(reflect.ValueOf(&p).Elem())
		q, _ := checked(t, p)
		r, _ := checked(t, p)
		var all []reflect.Value
		for _, v := range []any{p, q, r, check.Classes(q), check.Classes(q), check.Sigs(q), check.Sigs(q)} {
			lists(reflect.ValueOf(v), &all)
		}
		if !apart(all) {
			t.Fatal(parse.Print(p))
		}
	}
}

func TestNothingHandedInIsChanged(t *testing.T) {
	for _, p := range mixed(t, 10, 500) {
		before := fmt.Sprint(p)
		q, _ := checked(t, p)
		after := fmt.Sprint(q)
		check.Classes(q)
		check.Sigs(q)
		check.Entry(q, "f0")
		check.Check(q)
		for _, f := range q.Funs {
			check.Ends(f.Body)
		}
		if fmt.Sprint(p) != before || fmt.Sprint(q) != after {
			t.Fatal(before)
		}
	}
}

func TestRoomBehindTheEndIsNeitherReadNorWritten(t *testing.T) {
	src := "record p { x int } fun f(a int) int { tell a; return f(a); }"
	p := parsed(t, src)
	p.Records = append(p.Records, api.Record{Name: "p"})[:1]
	p.Records[0].Fields = append(p.Records[0].Fields, api.Param{Name: "x"})[:1]
	p.Funs = append(p.Funs, api.Fun{Name: "f"})[:1]
	f := &p.Funs[0]
	f.Params = append(f.Params, api.Param{Name: "a"})[:1]
	f.Body = append(f.Body, api.Stmt{Op: api.StBreak})[:2]
	e := &f.Body[1].Exprs[0]
	e.Kids = append(e.Kids, api.Expr{Op: api.ExName, Name: "gone"})[:1]
	if q, fault := checked(t, p); fault != (api.Fault{}) || !alike(q, good(t, src)) {
		t.Error(q, fault)
	}
	if p.Records[:2][1].Name != "p" || f.Body[:3][2].Op != api.StBreak || e.Kids[:2][1].Name != "gone" || f.Params[:2][1].Name != "a" || p.Records[0].Fields[:2][1].Name != "x" {
		t.Error("written")
	}
}

func TestAFaultIsAValue(t *testing.T) {
	_, err := check.Check(parsed(t, "fun f() { break; }"))
	for n := api.Errno(1); n < 300; n++ {
		if errors.Is(err, n) != (n == api.ErrPlace) {
			t.Error(n, err)
		}
	}
	var f api.Fault
	if !errors.As(err, &f) || f.At != 10 {
		t.Error(err)
	}
}

// spoilt has any field of a tree changed, whatever it may be then.
func spoilt(d *dice, v reflect.Value) {
	var all []reflect.Value
	var walk func(reflect.Value)
	walk = func(v reflect.Value) {
		switch v.Kind() {
		case reflect.Struct:
			for i := range v.NumField() {
				walk(v.Field(i))
			}
		case reflect.Slice:
			all = append(all, v)
			for i := range v.Len() {
				walk(v.Index(i))
			}
		default:
			all = append(all, v)
		}
	}
	walk(v)
	switch x := pick(d, all); x.Kind() {
	case reflect.String:
		x.SetString(pick(d, []string{"", "v0", "p0", "int", "f0", " ", strings.Repeat("n", 99)}))
	case reflect.Int:
		x.SetInt(int64(pick(d, append(samples.Numbers(), 4, 5, 6, 7, 8, 9, 10, 20, 21, 22, 23, 24, 25, 26, 27, 28))))
	case reflect.Uint8:
		x.SetUint(uint64(d.Below(256)))
	case reflect.Slice:
		if d.Below(2) == 0 {
			x.SetZero()
		} else {
			x.Set(reflect.Append(x, reflect.Zero(x.Type().Elem())))
		}
	}
}

func TestAllEndsOfAllArguments(t *testing.T) {
	d := dice(11)
	for i := range 8000 {
		p := parsed(t, samples.Source(&d, 1+i%6))
		for range 1 + d.Below(3) {
			spoilt(&d, reflect.ValueOf(&p).Elem())
		}
		q, _ := check.Check(p)
		for _, x := range []api.Program{p, q} {
			check.Classes(x)
			check.Sigs(x)
			check.Entry(x, "f0")
			check.Check(x)
			for _, f := range x.Funs {
				check.Ends(f.Body)
			}
		}
	}
	for op := -2; op < 40; op++ {
		for n := range 4 {
			e := api.Expr{Op: op, Kids: make([]api.Expr, n)}
			check.Check(api.Program{Funs: []api.Fun{{Body: []api.Stmt{{Op: api.StTell, Exprs: []api.Expr{e}}}}}})
			check.Check(api.Program{Funs: []api.Fun{{Body: []api.Stmt{{Op: op, Exprs: make([]api.Expr, n)}}}}})
		}
	}
}

func TestTheGreatestTexts(t *testing.T) {
	deep := "1" + strings.Repeat(" + 1", 8187)
	good(t, "fun f() { tell "+deep+"; }")
	isFault(t, "fun f() { tell "+strings.Repeat("1 + ", 8187)+"@true; }", api.ErrMust)
	good(t, "record p { n p } fun f(a p) { a = a"+strings.Repeat(".n", 8180)+"; }")
	good(t, "fun f() { "+strings.Repeat("f();", 4094)+" }")
	deepest := strings.Repeat("if true { ", 63)
	good(t, "fun f() int { "+deepest+"return 1;"+strings.Repeat(" } else { return 2; }", 63)+" }")
	isFault(t, "fun f() { "+deepest+"var a int = 1; @var a int = 1;"+strings.Repeat(" }", 63)+" }", api.ErrTwice)
}
