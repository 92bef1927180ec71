package parse_test

import (
	"fmt"
	"maps"
	"reflect"
	"slices"
	"strings"
	"testing"

	"proviso/api"
	"proviso/parse"
	"proviso/samples"
)

func sorted(l map[string]reflect.Value) []string { return slices.Sorted(maps.Keys(l)) }

// full is a program with something in each field and list.
func full() api.Program {
	expr := func() api.Expr {
		return api.Expr{Op: 20, At: 3, Name: "f", Num: 4, Type: 5, Class: 6, Ref: 7, Kids: []api.Expr{{Op: 4, At: 8, Name: "a", Num: 9, Type: 1, Class: 2, Ref: 3}, {Op: 3}}}
	}
	inner := api.Stmt{Op: 7, At: 1, Name: "n", Of: "int", Num: 2, Exprs: []api.Expr{expr()}, Type: 3, Ref: 4}
	return api.Program{
		Records: []api.Record{{At: 1, Name: "p", Parent: "q", Fields: []api.Param{{At: 2, Name: "x", Of: "int", Type: 1}}}, {Name: "r"}},
		Funs: []api.Fun{{At: 5, Name: "f", Of: "any", Params: []api.Param{{At: 2, Name: "x", Of: "int", Type: 1}}, Result: 5, Locals: 3, Body: []api.Stmt{
			{Op: 3, At: 1, Name: "n", Of: "int", Num: 2, Exprs: []api.Expr{expr()}, Body: []api.Stmt{inner, inner}, Else: []api.Stmt{inner}, Type: 3, Ref: 4},
		}}},
	}
}

// changed is a field with another value; a list with one more, one fewer, or none.
func changed(v reflect.Value, way int) {
	switch v.Kind() {
	case reflect.String:
		v.SetString([]string{"other", "", v.String() + " "}[way])
	case reflect.Int:
		v.SetInt(v.Int() + []int64{1, -1, 1 << 40}[way])
	case reflect.Uint8:
		v.SetUint(v.Uint() + 1)
	case reflect.Slice:
		switch {
		case way == 0:
			v.Set(reflect.Append(v, reflect.Zero(v.Type().Elem())))
		case way == 1 && v.Len() > 0:
			v.SetLen(v.Len() - 1)
		case v.Len() > 0:
			v.SetZero()
		default:
			v.Set(reflect.Append(v, reflect.Zero(v.Type().Elem())))
		}
	}
}

func TestP11_2EachFieldCounts(t *testing.T) {
	aside := strings.Fields(".At .Type .Class .Ref .Result .Locals")
	l := map[string]reflect.Value{}
	p := full()
	fieldsIn(reflect.ValueOf(&p).Elem(), "", l)
	tried := 0
	for path, v := range l {
		for way := range 3 {
			p := full()
			if v.Kind() == reflect.String && v.String() == "" && way == 1 {
				continue
			}
			m := map[string]reflect.Value{}
			fieldsIn(reflect.ValueOf(&p).Elem(), "", m)
			changed(m[path], way)
			want := slices.ContainsFunc(aside, func(s string) bool { return strings.HasSuffix(path, s) })
			if parse.Same(p, full()) != want || parse.Same(full(), p) != want {
				t.Errorf("%s, way %d: not %v", path, way, want)
			}
			tried++
		}
	}
	if tried < 200 {
		t.Error(tried)
	}
}

func TestP11_2NilAndEmptyAreAlike(t *testing.T) {
	p, q := full(), full()
	l := map[string]reflect.Value{}
	fieldsIn(reflect.ValueOf(&q).Elem(), "", l)
	for _, v := range l {
		if v.Kind() == reflect.Slice && v.Len() == 0 {
			v.Set(reflect.MakeSlice(v.Type(), 0, 3))
		}
	}
	if !parse.Same(p, q) || !parse.Same(q, p) || !parse.Same(api.Program{}, api.Program{Records: []api.Record{}, Funs: []api.Fun{}}) {
		t.Error(p, q)
	}
}

func TestP11_2ProgramsAreTheSameJustIfTheirTextsAre(t *testing.T) {
	d := dice(10)
	var l []api.Program
	var said []string
	for range 300 {
		l = append(l, grower{&d}.program(), telling(grower{&d}.expr(1)))
	}
	for _, p := range l {
		said = append(said, fmt.Sprint(p))
	}
	for i, p := range l {
		for j, q := range l {
			if parse.Same(p, q) != (said[i] == said[j]) {
				t.Fatal(said[i], said[j])
			}
		}
	}
}

func TestP11_2DeepAndWide(t *testing.T) {
	deep := func(n int) api.Program {
		e := api.Expr{Op: api.ExName, Name: "a"}
		for range n {
			e = api.Expr{Op: api.ExNeg, Kids: []api.Expr{e}}
		}
		return telling(e)
	}
	if !parse.Same(deep(1<<15), deep(1<<15)) || parse.Same(deep(1<<15), deep(1<<15-1)) {
		t.Error("deep")
	}
	wide := func(last string) api.Program {
		p := api.Program{Records: make([]api.Record, 1<<18)}
		p.Records[len(p.Records)-1].Name = last
		return p
	}
	if !parse.Same(wide("a"), wide("a")) || parse.Same(wide("a"), wide("b")) {
		t.Error("wide")
	}
}

// lists are all of a tree's, with their spare room.
func lists(v reflect.Value, all *[]reflect.Value) {
	switch v.Kind() {
	case reflect.Struct:
		for i := range v.NumField() {
			lists(v.Field(i), all)
		}
	case reflect.Slice:
		if v.Cap() > 0 {
			*all = append(*all, v.Slice(0, v.Cap()))
		}
		for i := range v.Len() {
			lists(v.Index(i), all)
		}
	}
}

// apart tells whether no two lists share any room.
func apart(all []reflect.Value) bool {
	slices.SortFunc(all, func(a, b reflect.Value) int { return int(a.Pointer()) - int(b.Pointer()) })
	for i := 1; i < len(all); i++ {
		if a := all[i-1]; a.Pointer()+uintptr(a.Cap())*a.Type().Elem().Size() > all[i].Pointer() {
			return false
		}
	}
	return true
}

func TestAnswersAreNewMemory(t *testing.T) {
	d := dice(11)
	for range 300 {
		src := samples.Source(&d, 8)
		p, q := good(t, src), good(t, src)
		e, _ := anExpr(t, "f(a, -b[1], new p.x + 2, g(), h(1, 2, 3, 4, 5))")
		var all []reflect.Value
		lists(reflect.ValueOf(p), &all)
		lists(reflect.ValueOf(q), &all)
		lists(reflect.ValueOf(e), &all)
		if !apart(all) {
			t.Fatal(src)
		}
	}
}

func TestNothingHandedInIsChanged(t *testing.T) {
	d := dice(12)
	for range 300 {
		p := grower{&d}.program()
		before := fmt.Sprint(p)
		parse.Print(p)
		parse.Same(p, p)
		if fmt.Sprint(p) != before {
			t.Fatal(before)
		}
	}
	p := api.Program{Funs: make([]api.Fun, 1, 4), Records: make([]api.Record, 1, 4)}
	p.Funs[0] = api.Fun{Name: "f", Body: make([]api.Stmt, 1, 3)}
	p.Records[0].Name = "p"
	p.Funs[0].Body[0] = api.Stmt{Op: api.StBreak}
	parse.Print(p)
	if p.Funs[:2][1].Name != "" || p.Funs[0].Body[:2][1].Op != 0 || p.Records[:2][1].Name != "" {
		t.Error("the room behind the end is written")
	}
}

func TestRoomBehindTheEndIsNotRead(t *testing.T) {
	p := full()
	q := full()
	q.Funs = append(q.Funs, api.Fun{Name: "behind"})[:1]
	q.Records = append(q.Records, api.Record{Name: "behind"})[:2]
	q.Funs[0].Body = append(q.Funs[0].Body, api.Stmt{Op: 5})[:1]
	if !parse.Same(p, q) || !parse.Same(q, p) {
		t.Error("read")
	}
}

func TestAllEndsOfAllArguments(t *testing.T) {
	d := dice(13)
	for range 4000 {
		p, q := grower{&d}.program(), full()
		for _, x := range []*api.Program{&p, &q} {
			for range 1 + d.Below(4) {
				l := map[string]reflect.Value{}
				fieldsIn(reflect.ValueOf(x).Elem(), "", l)
				turn(&d, l[pick(&d, sorted(l))])
			}
			parse.Print(*x)
		}
		parse.Same(p, q)
	}
	for range 20000 {
		b := make([]byte, d.Below(30))
		for i := range b {
			b[i] = pick(&d, []byte("a1(){}[]-!.;=<+, \n/&|:\xff"))
		}
		parsed(t, string(b))
		anExpr(t, string(b))
	}
}
