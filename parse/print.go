package parse

import (
	"strings"

	"proviso/api"
	"proviso/fault"
)

// Print is a program's text in one form; the empty text, if no text has that program.
func Print(p api.Program) string {
	w := &printer{}
	if fault.Catch(func() { w.program(p) }) != nil {
		return ""
	}
	text := w.text.String()
	if q, err := Parse(text); err != nil || !Same(p, q) {
		return ""
	}
	return text
}

// printer writes a tree's text. It gives up where there can be none.
type printer struct {
	text  strings.Builder
	parts int // that were written: a tree made by hand may have more than any text
}

func (w *printer) put(words ...string) {
	for _, s := range words {
		if len(s) > api.MaxSource-w.text.Len() {
			fault.GiveUp(0, api.ErrLong)
		}
		w.text.WriteString(s)
	}
}

// count is told each part, which has a token of its own.
func (w *printer) count() {
	w.parts++
	if w.parts > api.MaxTokens {
		fault.GiveUp(0, api.ErrLong)
	}
}

func (w *printer) program(p api.Program) {
	for _, d := range p.Records {
		w.record(d)
	}
	for _, d := range p.Funs {
		w.fun(d)
	}
}

func (w *printer) record(d api.Record) {
	w.put("record ", d.Name)
	if d.Parent != "" {
		w.put(" : ", d.Parent)
	}
	w.put(" {")
	if len(d.Fields) > 0 {
		w.put(" ")
		w.fields(d.Fields)
		w.put(" ")
	}
	w.put("}\n")
}

func (w *printer) fun(d api.Fun) {
	w.put("fun ", d.Name, "(")
	w.fields(d.Params)
	w.put(")")
	if d.Of != "" {
		w.put(" ", d.Of)
	}
	w.put(" {\n")
	w.block(d.Body, 1)
	w.put("}\n")
}

func (w *printer) fields(l []api.Param) {
	for i, f := range l {
		if i > 0 {
			w.put(", ")
		}
		w.put(f.Name, " ", f.Of)
	}
}

func (w *printer) indent(deep int) {
	for range deep {
		w.put("  ")
	}
}

func (w *printer) block(l []api.Stmt, deep int) {
	for _, s := range l {
		w.count()
		w.indent(deep)
		w.stmt(s, deep)
		w.put("\n")
	}
}

func (w *printer) stmt(s api.Stmt, deep int) {
	switch s.Op {
	case api.StIf:
		w.branches(s, deep)
	case api.StWhile:
		w.put("while ")
		w.one(s.Exprs)
		w.body(s.Body, deep)
	default:
		w.plain(s)
		w.put(";")
	}
}

// body is a block with its marks.
func (w *printer) body(l []api.Stmt, deep int) {
	w.put(" {\n")
	w.block(l, deep+1)
	w.indent(deep)
	w.put("}")
}

func (w *printer) branches(s api.Stmt, deep int) {
	w.put("if ")
	w.one(s.Exprs)
	w.body(s.Body, deep)
	switch {
	case len(s.Else) == 0:
	case len(s.Else) == 1 && s.Else[0].Op == api.StIf:
		w.count()
		w.put(" else ")
		w.branches(s.Else[0], deep)
	default:
		w.put(" else")
		w.body(s.Else, deep)
	}
}
