package parse_test

import (
	"errors"
	"reflect"
	"strconv"
	"strings"
	"testing"

	"proviso/api"
	"proviso/lex"
	"proviso/parse"
	"proviso/samples"
)

type dice = samples.Dice

func pick[T any](d *dice, l []T) T { return l[d.Below(len(l))] }

// tidy makes each empty list nil: they mean the same.
func tidy(v reflect.Value) {
	switch v.Kind() {
	case reflect.Pointer:
		tidy(v.Elem())
	case reflect.Struct:
		for i := range v.NumField() {
			tidy(v.Field(i))
		}
	case reflect.Slice:
		if v.Len() == 0 {
			v.SetZero()
		}
		for i := range v.Len() {
			tidy(v.Index(i))
		}
	}
}

// alike tells whether two trees are the same in all fields.
func alike[T any](a, b T) bool {
	tidy(reflect.ValueOf(&a))
	tidy(reflect.ValueOf(&b))
	return reflect.DeepEqual(a, b)
}

// faultOf is the fault that an error is; the zero fault of nil.
func faultOf(t *testing.T, err error) api.Fault {
	t.Helper()
	if err == nil {
		return api.Fault{}
	}
	f, is := err.(api.Fault)
	if !is || !errors.Is(err, f.Why) {
		t.Fatalf("no fault: %v", err)
	}
	return f
}

// words are the places of each new, by those of the token behind it: the document says that an expression's place is its name's or word's, and a new has both.
func words(src string) map[int]int {
	tokens, _ := lex.Scan(src)
	l := map[int]int{}
	for i, x := range tokens {
		if i > 0 && tokens[i-1].Kind == api.TokNew {
			l[x.At] = tokens[i-1].At
		}
	}
	return l
}

// settle puts the place of each new at that word.
func settle(words map[int]int, l []api.Expr) {
	for i := range l {
		if at, is := words[l[i].At]; is && (l[i].Op == api.ExNew || l[i].Op == api.ExMake) {
			l[i].At = at
		}
		settle(words, l[i].Kids)
	}
}

func settleStmts(words map[int]int, l []api.Stmt) {
	for _, s := range l {
		settle(words, s.Exprs)
		settleStmts(words, s.Body)
		settleStmts(words, s.Else)
	}
}

// parsed is what Parse answers; beside a fault the program must be zero.
func parsed(t *testing.T, src string) (api.Program, api.Fault) {
	t.Helper()
	p, err := parse.Parse(src)
	f := faultOf(t, err)
	if err != nil && len(p.Records)+len(p.Funs) > 0 {
		t.Fatalf("%q: a program beside %v", src, f)
	}
	if strings.Contains(src, "new") {
		for _, x := range p.Funs {
			settleStmts(words(src), x.Body)
		}
	}
	return p, f
}

// anExpr is what Expr answers; beside a fault the expression must be zero.
func anExpr(t *testing.T, src string) (api.Expr, api.Fault) {
	t.Helper()
	e, err := parse.Expr(src)
	f := faultOf(t, err)
	if err != nil && !alike(e, api.Expr{}) {
		t.Fatalf("%q: an expression beside %v", src, f)
	}
	l := []api.Expr{e}
	if strings.Contains(src, "new") {
		settle(words(src), l)
	}
	return l[0], f
}

func good(t *testing.T, src string) api.Program {
	t.Helper()
	p, f := parsed(t, src)
	if f != (api.Fault{}) {
		t.Fatalf("%q: %v", src, f)
	}
	return p
}

// spelling is a token's, written anew.
func spelling(x api.Token) string {
	switch x.Kind {
	case api.TokName:
		return x.Text
	case api.TokNum:
		return strconv.Itoa(x.Num)
	}
	return lex.Word(x.Kind)
}

// grower makes trees as the dice fall: any that a text can have.
type grower struct{ d *dice }

func (g grower) name() string { return pick(g.d, strings.Fields("a b c x y p q f g top Z_9")) }

func (g grower) word() string { return pick(g.d, strings.Fields("int bool ints any p q top")) }

func (g grower) num() int {
	return pick(g.d, []int{0, 1, 7, 200, 201, 1<<31 - 1, 1 << 31, 1 << 31})
}

func (g grower) exprs(n, deep int) []api.Expr {
	var l []api.Expr
	for range n {
		l = append(l, g.expr(deep))
	}
	return l
}

func (g grower) expr(deep int) api.Expr {
	e := api.Expr{Op: 1 + g.d.Below(27)}
	if deep == 0 {
		e.Op = pick(g.d, []int{api.ExInt, api.ExBool, api.ExNull, api.ExName, api.ExNew})
	}
	switch e.Op {
	case api.ExInt:
		e.Num = g.num()
		if g.d.Below(4) == 0 {
			e.Num = -1 << 31
		}
	case api.ExBool:
		e.Num = g.d.Below(2)
	case api.ExNull:
	case api.ExName, api.ExNew:
		e.Name = g.name()
	case api.ExCall:
		e.Name = g.name()
		e.Kids = g.exprs(g.d.Below(4), deep-1)
	case api.ExNeg, api.ExNot, api.ExMake, api.ExLen:
		e.Kids = g.exprs(1, deep-1)
	case api.ExField, api.ExAs, api.ExIs:
		e.Name = g.name()
		e.Kids = g.exprs(1, deep-1)
	default:
		e.Kids = g.exprs(2, deep-1)
	}
	return e
}

func (g grower) stmts(n, deep int) []api.Stmt {
	var l []api.Stmt
	for range g.d.Below(n + 1) {
		l = append(l, g.stmt(deep))
	}
	return l
}

func (g grower) stmt(deep int) api.Stmt {
	s := api.Stmt{Op: 1 + g.d.Below(10)}
	if deep == 0 && (s.Op == api.StIf || s.Op == api.StWhile) {
		s.Op = api.StTell
	}
	switch s.Op {
	case api.StVar:
		s.Name, s.Of, s.Exprs = g.name(), g.word(), g.exprs(1, 2)
	case api.StSet:
		s.Exprs = g.exprs(2, 2)
		for s.Exprs[0].Op != api.ExName && s.Exprs[0].Op != api.ExField && s.Exprs[0].Op != api.ExAt {
			s.Exprs[0] = g.expr(3)
		}
	case api.StIf:
		s.Exprs, s.Body, s.Else = g.exprs(1, 2), g.stmts(2, deep-1), g.stmts(2, deep-1)
	case api.StWhile:
		s.Exprs, s.Body = g.exprs(1, 2), g.stmts(2, deep-1)
	case api.StReturn:
		s.Exprs = g.exprs(g.d.Below(2), 3)
	case api.StTell:
		s.Exprs = g.exprs(1, 4)
	case api.StFail:
		s.Num = g.num()
	case api.StCall:
		s.Exprs = []api.Expr{{Op: api.ExCall, Name: g.name(), Kids: g.exprs(g.d.Below(3), 2)}}
	}
	return s
}

func (g grower) params(n int) []api.Param {
	var l []api.Param
	for range g.d.Below(n + 1) {
		l = append(l, api.Param{Name: g.name(), Of: g.word()})
	}
	return l
}

func (g grower) program() api.Program {
	var p api.Program
	for range g.d.Below(3) {
		r := api.Record{Name: g.name(), Fields: g.params(3)}
		if g.d.Below(2) == 0 {
			r.Parent = g.name()
		}
		p.Records = append(p.Records, r)
	}
	for range g.d.Below(3) {
		f := api.Fun{Name: g.name(), Params: g.params(3), Body: g.stmts(4, 3)}
		if g.d.Below(2) == 0 {
			f.Of = g.word()
		}
		p.Funs = append(p.Funs, f)
	}
	return p
}
