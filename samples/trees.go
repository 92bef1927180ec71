package samples

import (
	"strings"

	"proviso/api"
	"proviso/check"
	"proviso/parse"
)

// Parts are all statements and expressions of a program, where they stand: each ahead of those within it.
func Parts(p *api.Program) ([]*api.Stmt, []*api.Expr) {
	var w parts
	for i := range p.Funs {
		w.block(p.Funs[i].Body)
	}
	return w.stmts, w.exprs
}

type parts struct {
	stmts []*api.Stmt
	exprs []*api.Expr
}

func (w *parts) block(l []api.Stmt) {
	for i := range l {
		s := &l[i]
		w.stmts = append(w.stmts, s)
		w.kids(s.Exprs)
		w.block(s.Body)
		w.block(s.Else)
	}
}

func (w *parts) kids(l []api.Expr) {
	for i := range l {
		w.exprs = append(w.exprs, &l[i])
		w.kids(l[i].Kids)
	}
}

// Alike are programs that are Same as one that check takes: with what check puts in, read from the one form, and with other places and empty lists for nil ones.
func Alike(d *Dice, p api.Program) []api.Program {
	checked, _ := check.Check(p)
	read, _ := parse.Parse(parse.Print(p))
	moved, _ := parse.Parse(parse.Print(p))
	for i := range moved.Records {
		moved.Records[i].At = d.Below(99)
		moved.Records[i].Fields = append([]api.Param{}, moved.Records[i].Fields...)
	}
	for i := range moved.Funs {
		moved.Funs[i].At = d.Below(99)
		moved.Funs[i].Body = append([]api.Stmt{}, moved.Funs[i].Body...)
		moved.Funs[i].Params = append([]api.Param{}, moved.Funs[i].Params...)
	}
	stmts, exprs := Parts(&moved)
	for _, s := range stmts {
		s.At = d.Below(99)
		if len(s.Else) == 0 {
			s.Else = []api.Stmt{}
		}
	}
	for _, e := range exprs {
		e.At = d.Below(99)
		if len(e.Kids) == 0 {
			e.Kids = []api.Expr{}
		}
	}
	return []api.Program{checked, read, moved}
}

// Spoil changes something in a program, whatever that may be then.
func Spoil(d *Dice, p *api.Program) {
	stmts, exprs := Parts(p)
	number := pick(d, append(Numbers(), d.Below(30), d.Below(30)))
	name := pick(d, []string{"", "v0", "p0", "int", "f0", " ", strings.Repeat("n", 99)})
	if len(stmts) == 0 || len(exprs) == 0 {
		p.Funs = append(p.Funs, api.Fun{Name: name, Of: name, Body: make([]api.Stmt, d.Below(3))})
		return
	}
	s, e := pick(d, stmts), pick(d, exprs)
	switch d.Below(14) {
	case 0:
		s.Op = d.Below(13) - 1
	case 1:
		s.Exprs = append(s.Exprs, api.Expr{Op: e.Op, Name: e.Name})
	case 2:
		s.Exprs = nil
	case 3:
		s.Num = number
	case 4:
		s.Body, s.Else = s.Else, s.Body
	case 5:
		s.Name = name
	case 6, 7:
		e.Op = d.Below(30) - 1
	case 8:
		e.Kids = append(e.Kids, api.Expr{Op: d.Below(30), Name: name})
	case 9:
		e.Kids = nil
	case 10:
		e.Num = number
	case 11:
		e.Name, e.Ref, e.Class, e.Type = name, number, number, api.Type(d.Below(256))
	case 12:
		f := &p.Funs[d.Below(len(p.Funs))]
		f.At, f.Name, f.Locals, f.Result = number, name, number, api.Type(d.Below(256))
	case 13:
		p.Records = append(p.Records, api.Record{At: number, Name: name, Fields: []api.Param{{Name: name, Of: name}}})
	}
}
