package check_test

import (
	"errors"
	"reflect"
	"slices"
	"strings"
	"testing"

	"proviso/api"
	"proviso/check"
	"proviso/parse"
	"proviso/samples"
)

type dice = samples.Dice

func pick[T any](d *dice, l []T) T { return l[d.Below(len(l))] }

// tidy makes each empty list nil: they mean the same.
func tidy(v reflect.Value) {
	switch v.Kind() {
	case reflect.Pointer:
		tidy(v.Elem())
	case reflect.Struct:
		for i := range v.NumField() {
			tidy(v.Field(i))
		}
	case reflect.Slice:
		if v.Len() == 0 {
			v.SetZero()
		}
		for i := range v.Len() {
			tidy(v.Index(i))
		}
	}
}

// alike tells whether two trees are the same in all fields.
func alike[T any](a, b T) bool {
	tidy(reflect.ValueOf(&a))
	tidy(reflect.ValueOf(&b))
	return reflect.DeepEqual(a, b)
}

// parsed is the tree of a text that must have one.
func parsed(t *testing.T, src string) api.Program {
	t.Helper()
	p, err := parse.Parse(src)
	if err != nil {
		t.Fatalf("%s: %v", src, err)
	}
	return p
}

// checked is what Check answers; beside a fault the program must be zero.
func checked(t *testing.T, p api.Program) (api.Program, api.Fault) {
	t.Helper()
	q, err := check.Check(p)
	if err == nil {
		return q, api.Fault{}
	}
	f, is := err.(api.Fault)
	if !is || !errors.Is(err, f.Why) || f.Why == api.OK {
		t.Fatalf("no fault: %v", err)
	}
	if len(q.Records)+len(q.Funs) > 0 {
		t.Fatalf("a program beside %v", f)
	}
	return q, f
}

// good is a text's checked program.
func good(t *testing.T, src string) api.Program {
	t.Helper()
	q, f := checked(t, parsed(t, src))
	if f != (api.Fault{}) {
		t.Fatalf("%s: %v", src, f)
	}
	return q
}

// mark stands in a text where a fault must be told; it is taken out.
const mark = "@"

// isFault tries a text with one mark in it.
func isFault(t *testing.T, src string, why api.Errno) {
	t.Helper()
	at := strings.Index(src, mark)
	if at < 0 || strings.Count(src, mark) != 1 {
		t.Fatal("no mark: ", src)
	}
	want := api.Fault{At: at, Why: why}
	if _, f := checked(t, parsed(t, strings.Replace(src, mark, "", 1))); f != want {
		t.Errorf("%s: %v, wanted %v", src, f, want)
	}
}

// isLooked holds Check against the words.
func isLooked(t *testing.T, src string) api.Fault {
	t.Helper()
	want := parsed(t, src)
	fault := looked(&want)
	q, f := checked(t, parsed(t, src))
	if f != fault {
		t.Fatalf("%s\n%v, wanted %v", src, f, fault)
	}
	if f == (api.Fault{}) && !alike(q, want) {
		t.Fatalf("%s\n%v\nwanted\n%v", src, q, want)
	}
	return f
}

// bender changes a tree as the dice fall, into one that a text may have.
type bender struct {
	d     *dice
	exprs []*api.Expr
	lists []*[]api.Stmt
	stmts []*api.Stmt
	names []*string // of variables, functions, fields, records
	words []*string // of types
	args  []*[]api.Expr
}

// bent is a program with one thing changed.
func bent(d *dice, p api.Program) api.Program {
	b := &bender{d: d}
	for i := range p.Records {
		r := &p.Records[i]
		b.names = append(b.names, &r.Name)
		if r.Parent != "" {
			b.names = append(b.names, &r.Parent)
		}
		b.params(r.Fields)
	}
	for i := range p.Funs {
		f := &p.Funs[i]
		b.names = append(b.names, &f.Name)
		b.params(f.Params)
		b.words = append(b.words, &f.Of)
		b.block(&f.Body)
	}
	b.bend(&p)
	return p
}

func (b *bender) params(l []api.Param) {
	for i := range l {
		b.names = append(b.names, &l[i].Name)
		b.words = append(b.words, &l[i].Of)
	}
}

func (b *bender) block(l *[]api.Stmt) {
	b.lists = append(b.lists, l)
	for i := range *l {
		s := &(*l)[i]
		b.stmts = append(b.stmts, s)
		if s.Op == api.StVar {
			b.names = append(b.names, &s.Name)
			b.words = append(b.words, &s.Of)
		}
		b.parts(s.Exprs)
		b.block(&s.Body)
		if s.Op == api.StIf {
			b.block(&s.Else)
		}
	}
}

func (b *bender) parts(l []api.Expr) {
	for i := range l {
		e := &l[i]
		b.exprs = append(b.exprs, e)
		if e.Name != "" {
			b.names = append(b.names, &e.Name)
		}
		if e.Op == api.ExCall {
			b.args = append(b.args, &e.Kids)
		}
		b.parts(e.Kids)
	}
}

func (b *bender) bend(p *api.Program) {
	switch n := b.d.Below(12); {
	case n < 3 && len(b.exprs) > 0:
		*pick(b.d, b.exprs) = b.other()
	case n < 5:
		*pick(b.d, b.names) = pick(b.d, append(strings.Fields("x0 x1 v0 v1 v2 v3 p0 p1 f0 f1 gone"), *pick(b.d, b.names)))
	case n < 6 && len(b.words) > 0:
		*pick(b.d, b.words) = pick(b.d, append(strings.Fields("int bool ints any p0 p1 p2 gone"), *pick(b.d, b.words)))
	case n < 8 && len(b.lists) > 0:
		b.shift(pick(b.d, b.lists))
	case n < 9 && len(b.args) > 0:
		l := pick(b.d, b.args)
		if *l = append(*l, b.other()); b.d.Below(2) == 0 {
			*l = (*l)[:b.d.Below(len(*l))]
		}
	case n < 10 && len(p.Records) > 0:
		p.Records = append(p.Records, pick(b.d, p.Records))
		i, j := b.d.Below(len(p.Records)), b.d.Below(len(p.Records))
		p.Records[i], p.Records[j] = p.Records[j], p.Records[i]
	case n < 11 && len(p.Funs) > 1:
		p.Funs = p.Funs[1:]
	}
}

// other is an expression that may stand anywhere.
func (b *bender) other() api.Expr {
	name := pick(b.d, strings.Fields("v0 v1 v2 v3 v4 v5 v6"))
	all := []api.Expr{
		{Op: api.ExName, Name: name}, {Op: api.ExName, Name: name}, {Op: api.ExNull}, {Op: api.ExInt, Num: 1 << 31}, {Op: api.ExInt, Num: 3}, {Op: api.ExBool, Num: 1},
		{Op: api.ExNew, Name: "p0"}, {Op: api.ExCall, Name: "f0"}, {Op: api.ExMake, Kids: []api.Expr{{Op: api.ExInt}}},
		{Op: api.ExField, Name: "x0", Kids: []api.Expr{{Op: api.ExName, Name: name}}},
		{Op: api.ExAs, Name: "p1", Kids: []api.Expr{{Op: api.ExName, Name: name}}},
		{Op: api.ExAt, Kids: []api.Expr{{Op: api.ExName, Name: name}, {Op: api.ExInt}}},
		{Op: api.ExLen, Kids: []api.Expr{{Op: api.ExNull}}},
		{Op: api.ExSame, Kids: []api.Expr{{Op: api.ExName, Name: name}, {Op: api.ExName, Name: pick(b.d, strings.Fields("v0 v1 v2 v3"))}}},
		{Op: api.ExIs, Name: pick(b.d, strings.Fields("p0 p1 gone")), Kids: []api.Expr{{Op: api.ExName, Name: name}}},
	}
	return pick(b.d, append(all, copied([]api.Expr{*pick(b.d, b.exprs)})...))
}

// copied are expressions that share nothing with others.
func copied(l []api.Expr) []api.Expr {
	l = slices.Clone(l)
	for i := range l {
		l[i].Kids = copied(l[i].Kids)
	}
	return l
}

func copiedStmts(l []api.Stmt) []api.Stmt {
	l = slices.Clone(l)
	for i := range l {
		l[i].Exprs, l[i].Body, l[i].Else = copied(l[i].Exprs), copiedStmts(l[i].Body), copiedStmts(l[i].Else)
	}
	return l
}

// shift takes a statement out of a list, puts one in, or changes two.
func (b *bender) shift(l *[]api.Stmt) {
	n := len(*l)
	news := []api.Stmt{{Op: api.StBreak}, {Op: api.StContinue}, {Op: api.StReturn}, {Op: api.StFail, Num: 200 + b.d.Below(2)}, {Op: api.StReturn, Exprs: []api.Expr{{Op: api.ExNull}}},
		{Op: api.StVar, Name: "v1", Of: "any", Exprs: []api.Expr{{Op: api.ExNull}}}}
	if len(b.stmts) > 0 {
		news = append(news, copiedStmts([]api.Stmt{*pick(b.d, b.stmts)})...)
	}
	switch b.d.Below(3) {
	case 0:
		*l = append(*l, pick(b.d, news))
	case 1:
		if n > 0 {
			*l = (*l)[:n-1]
		}
	case 2:
		if n > 1 {
			i := b.d.Below(n - 1)
			(*l)[i], (*l)[i+1] = (*l)[i+1], (*l)[i]
		}
	}
}
