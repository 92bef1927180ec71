package check

import (
	"proviso/api"
	"proviso/fault"
	"proviso/types"
)

// decls is what a program's records and functions mean. What looks at a program gives up by panic with a fault.
type decls struct {
	classes []api.Class
	class   map[string]int // numbers of classes, by their names
	sigs    []api.Sig
	fun     map[string]int // numbers of functions, by their names
}

// checked is a program with what its names mean; it gives up where there is a fault.
func checked(p api.Program) api.Program {
	d := &decls{class: map[string]int{}, fun: map[string]int{}}
	var q api.Program
	for i, r := range p.Records {
		d.declare(i, r)
	}
	for i, r := range p.Records {
		q.Records = append(q.Records, d.record(i, r))
	}
	for i, f := range p.Funs {
		q.Funs = append(q.Funs, d.header(i, f))
	}
	b := &bodies{exprs: exprs{decls: d}}
	for i, f := range p.Funs {
		b.fun(&q.Funs[i], f.Body)
	}
	d.mayBe(p.Records)
	return q
}

// mayBe gives up at a record that is no class for layer 2: one with the name of a type that no source text can tell.
func (d *decls) mayBe(l []api.Record) {
	if c, why := types.Check(d.classes); why != api.OK {
		fault.GiveUp(l[c].At, why)
	}
}

func (d *decls) declare(i int, r api.Record) {
	if i == api.MaxClasses {
		fault.GiveUp(r.At, api.ErrMany)
	}
	if _, is := d.class[r.Name]; is {
		fault.GiveUp(r.At, api.ErrTwice)
	}
	c := api.Class{Name: r.Name, Parent: -1}
	if r.Parent != "" {
		parent, is := d.class[r.Parent]
		if !is {
			fault.GiveUp(r.At, api.ErrParent)
		}
		c.Parent = parent
	}
	d.class[r.Name] = i
	d.classes = append(d.classes, c)
}

// record puts in what a record's fields are, once all records are declared.
func (d *decls) record(i int, r api.Record) api.Record {
	q := api.Record{At: r.At, Name: r.Name, Parent: r.Parent}
	for _, f := range r.Fields {
		if _, _, is := types.Find(d.classes, i, f.Name); is {
			fault.GiveUp(f.At, api.ErrTwice)
		}
		f.Type = d.word(f.At, f.Of)
		if len(types.Fields(d.classes, i)) == api.MaxFields {
			fault.GiveUp(f.At, api.ErrMany)
		}
		d.classes[i].Fields = append(d.classes[i].Fields, api.Field{Name: f.Name, Type: f.Type})
		q.Fields = append(q.Fields, f)
	}
	return q
}

// header is a function without its body.
func (d *decls) header(i int, f api.Fun) api.Fun {
	if i == api.MaxFuncs {
		fault.GiveUp(f.At, api.ErrMany)
	}
	if _, is := d.fun[f.Name]; is {
		fault.GiveUp(f.At, api.ErrTwice)
	}
	q := api.Fun{At: f.At, Name: f.Name, Of: f.Of}
	var s api.Sig
	ahead := map[string]struct{}{}
	for n, x := range f.Params {
		if n == api.MaxParams {
			fault.GiveUp(x.At, api.ErrMany)
		}
		if _, is := ahead[x.Name]; is {
			fault.GiveUp(x.At, api.ErrTwice)
		}
		ahead[x.Name] = struct{}{}
		x.Type = d.word(x.At, x.Of)
		q.Params = append(q.Params, x)
		s.Params = append(s.Params, x.Type)
	}
	if f.Of != "" {
		q.Result = d.word(f.At, f.Of)
	}
	s.Result = q.Result
	d.fun[f.Name] = i
	d.sigs = append(d.sigs, s)
	return q
}

// word is the type of a type's word; those of a source text alone, which types.Parse knows more of.
func (d *decls) word(at int, of string) api.Type {
	switch of {
	case "int":
		return api.TInt
	case "bool":
		return api.TBool
	case "ints":
		return api.TInts
	case "any":
		return api.TAny
	}
	return api.TClass + api.Type(d.classOf(at, of))
}

// classOf is the number of the class of a name.
func (d *decls) classOf(at int, name string) int {
	c, is := d.class[name]
	if !is {
		fault.GiveUp(at, api.ErrUnknown)
	}
	return c
}
