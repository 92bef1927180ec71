package parse

import "proviso/api"

// decls reads records and functions.
type decls struct{ stmts }

func (r *decls) program() api.Program {
	var p api.Program
	for r.next < len(r.tokens) {
		if r.is(api.TokRecord) {
			p.Records = append(p.Records, r.record())
		} else {
			p.Funs = append(p.Funs, r.fun())
		}
	}
	return p
}

func (r *decls) record() api.Record {
	r.take(api.TokRecord)
	t := r.take(api.TokName)
	d := api.Record{At: t.At, Name: t.Text}
	if r.pass(api.TokColon) {
		d.Parent = r.name()
	}
	d.Fields = r.fields(api.TokOpen, api.TokShut)
	return d
}

func (r *decls) fun() api.Fun {
	r.take(api.TokFun)
	t := r.take(api.TokName)
	d := api.Fun{At: t.At, Name: t.Text}
	d.Params = r.fields(api.TokLeft, api.TokRight)
	if !r.is(api.TokOpen) {
		d.Of = r.word()
	}
	d.Body = r.block()
	return d
}

// fields are names with types, between two marks.
func (r *decls) fields(from, to int) []api.Param {
	var l []api.Param
	r.open(from)
	if !r.is(to) {
		l = append(l, r.field())
		for r.pass(api.TokComma) {
			l = append(l, r.field())
		}
	}
	r.shut(to)
	return l
}

func (r *decls) field() api.Param {
	t := r.take(api.TokName)
	return api.Param{At: t.At, Name: t.Text, Of: r.word()}
}
