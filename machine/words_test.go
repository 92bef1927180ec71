package machine_test

import (
	"math"
	"slices"
	"strings"

	"proviso/api"
	"proviso/code"
	"proviso/types"
)

// told is chapter 17 over again, by its words. Its values are Go's own: an int, a bool, an *object (none: null); nothing is nil.
type told struct {
	m    api.Module
	room int
	made []*object
	acts []*act
	o    api.Outcome
	done [api.NumOps]int
}

// act is a call that is begun and not ended.
type act struct {
	fn, at int
	vars   []any
	stack  []any
}

// object is a record, with what its fields have, or a row.
type object struct {
	ref    int
	class  int
	fields []any
	isRow  bool
	row    []int
}

// table is chapter 7's: what an instruction takes, and what it gives. (A, F: class A, its field's type.)
var table = map[string]string{
	"nop": ">", "jump": ">", "trap": ">", "int": "> int", "bool": "> bool", "null": "> null", "load": "> known",
	"store": "known >", "pop": "top >", "dup": "top > top top", "swap": "top top > top top",
	"add": "int int > int", "sub": "int int > int", "mul": "int int > int", "div": "int int > int", "rem": "int int > int", "neg": "int > int",
	"less": "int int > bool", "same": "top top > bool", "not": "bool > bool", "is": "any any > bool", "unless": "bool >",
	"new": "> A", "get": "A > F", "put": "A F >", "make": "int > ints", "len": "ints > int", "at": "ints int > int", "set": "ints int int >",
	"cast": "any > A", "test": "any > bool", "tell": "int >", "call": ">", "return": ">",
}

// errorAhead is P17.1's error of a run that does not begin.
func errorAhead(x try) api.Errno {
	stored := func(t api.Type) bool { return types.Valid(x.m.Classes, t) && t != api.TTop && t != api.TNull }
	_, why := types.Check(x.m.Classes)
	bad := why != api.OK || len(x.m.Funcs) == 0 || len(x.m.Funcs) > 64 || x.fuel < 0 || x.fuel > 1<<20 || x.room < 0 || x.room > 4096
	for _, f := range x.m.Funcs {
		bad = bad || len(f.Sig.Params) > 8 || f.Locals < len(f.Sig.Params) || f.Locals > 16 || len(f.Code) > 4096
		bad = bad || f.Sig.Result != api.TTop && !stored(f.Sig.Result) || slices.ContainsFunc(f.Sig.Params, func(t api.Type) bool { return !stored(t) })
	}
	switch {
	case bad:
		return api.ErrArg
	case x.entry < 0 || x.entry >= len(x.m.Funcs):
		return api.ErrFunc
	case len(x.args) != len(x.m.Funcs[x.entry].Sig.Params):
		return api.ErrArgs
	}
	for i, t := range x.m.Funcs[x.entry].Sig.Params {
		n := x.args[i]
		if !(t == api.TInt && n >= math.MinInt32 && n <= math.MaxInt32) && !(t == api.TBool && (n == 0 || n == 1)) {
			return api.ErrArgs
		}
	}
	return api.OK
}

// tell is a run, by the words, ahead of its first step; it has ended, if there is an error ahead.
func tell(x try) *told {
	w := &told{m: x.m, room: x.room}
	if w.o.Err = errorAhead(x); w.o.Err != api.OK {
		return w
	}
	f := x.m.Funcs[x.entry]
	a := &act{fn: x.entry, vars: make([]any, f.Locals)}
	for i, t := range f.Sig.Params {
		a.vars[i] = x.args[i]
		if t == api.TBool {
			a.vars[i] = x.args[i] == 1
		}
	}
	w.acts = []*act{a}
	w.o.Err = api.ErrFuel
	return w
}

// told is the whole run.
func (x try) told() *told {
	w := tell(x)
	for len(w.acts) > 0 && w.o.Steps < x.fuel {
		w.step()
	}
	return w
}

func (w *told) end(why api.Errno) { w.acts, w.o.Err = nil, why }

func (w *told) trap(n int) {
	w.end(api.ErrTrap)
	w.o.Trap = n
}

// is tells whether a value is as a type's word wants.
func (w *told) is(v any, word string) bool {
	switch word {
	case "top":
		return true
	case "known":
		return v != nil
	case "int":
		_, is := v.(int)
		return is
	case "bool":
		_, is := v.(bool)
		return is
	}
	o, is := v.(*object)
	switch {
	case !is || o == nil || word == "any":
		return is
	case word == "ints":
		return o.isRow
	}
	return w.below(o, word)
}

// below tells whether an object is a record of the class of a name, or of one below it.
func (w *told) below(o *object, name string) bool {
	if o == nil || o.isRow {
		return false
	}
	for c := o.class; c >= 0; c = w.m.Classes[c].Parent {
		if w.m.Classes[c].Name == name {
			return true
		}
	}
	return false
}

func (w *told) fields(class int) []api.Field {
	if class < 0 {
		return nil
	}
	return append(w.fields(w.m.Classes[class].Parent), w.m.Classes[class].Fields...)
}

// forms are the words of what an instruction takes and gives; false, if an operand names nothing.
func (w *told) forms(a *act, in api.Instr) (takes, gives []string, is bool) {
	word := code.Name(in.Op)
	takesText, givesText, _ := strings.Cut(table[word], ">")
	takes, gives = strings.Fields(takesText), strings.Fields(givesText)
	switch word {
	case "load", "store":
		return takes, gives, in.A < len(a.vars)
	case "call":
		if in.A >= len(w.m.Funcs) {
			return nil, nil, false
		}
		for _, t := range w.m.Funcs[in.A].Sig.Params {
			takes = append(takes, types.Print(w.m.Classes, t))
		}
	case "return":
		if t := w.m.Funcs[a.fn].Sig.Result; t != api.TTop {
			takes = append(takes, types.Print(w.m.Classes, t))
		}
	case "new", "get", "put", "cast", "test":
		if in.A >= len(w.m.Classes) {
			return nil, nil, false
		}
		if (word == "get" || word == "put") && in.B >= len(w.fields(in.A)) {
			return nil, nil, false
		}
		for i, x := range takes {
			if x == "A" {
				takes[i] = w.m.Classes[in.A].Name
			} else if x == "F" {
				takes[i] = types.Print(w.m.Classes, w.fields(in.A)[in.B].Type)
			}
		}
	}
	return takes, gives, true
}

func (w *told) step() {
	w.o.Steps++
	a := w.acts[len(w.acts)-1]
	b := w.m.Funcs[a.fn].Code
	if a.at >= len(b) {
		w.end(api.ErrStuck)
		return
	}
	in, why := code.Decode(b, a.at)
	if why != api.OK {
		w.end(api.ErrStuck)
		return
	}
	takes, gives, is := w.forms(a, in)
	if !is || len(a.stack) < len(takes) {
		w.end(api.ErrStuck)
		return
	}
	rest, taken := a.stack[:len(a.stack)-len(takes)], slices.Clone(a.stack[len(a.stack)-len(takes):])
	for i, word := range takes {
		is = is && w.is(taken[i], word)
	}
	switch code.Name(in.Op) {
	case "load":
		is = a.vars[in.A] != nil
	case "same":
		is = w.is(taken[0], "int") && w.is(taken[1], "int") || w.is(taken[0], "bool") && w.is(taken[1], "bool")
	case "return":
		is = is && len(rest) == 0
		if n := len(w.acts); n > 1 && len(takes) == 1 {
			around := w.acts[n-2]
			is = is && len(around.vars)+len(around.stack)+1 <= 24
		}
	}
	if !is || len(a.vars)+len(rest)+len(gives) > 24 {
		w.end(api.ErrStuck)
		return
	}
	w.done[in.Op]++
	a.stack, a.at = rest, a.at+code.Size(in.Op)
	w.do(a, in, taken)
}

func (w *told) do(a *act, in api.Instr, v []any) {
	switch word := code.Name(in.Op); word {
	case "int":
		a.stack = append(a.stack, in.A)
	case "bool":
		a.stack = append(a.stack, in.A == 1)
	case "null":
		a.stack = append(a.stack, (*object)(nil))
	case "load":
		a.stack = append(a.stack, a.vars[in.A])
	case "store":
		a.vars[in.A] = v[0]
	case "dup":
		a.stack = append(a.stack, v[0], v[0])
	case "swap":
		a.stack = append(a.stack, v[1], v[0])
	case "same", "is":
		a.stack = append(a.stack, v[0] == v[1])
	case "not":
		a.stack = append(a.stack, v[0] == false)
	case "jump":
		a.at = in.A
	case "unless":
		if v[0] == false {
			a.at = in.A
		}
	case "trap":
		w.trap(16 + in.A)
	case "tell":
		if len(w.o.Told) == 1024 {
			w.trap(api.TrapTold)
			return
		}
		w.o.Told = append(w.o.Told, v[0].(int))
	case "call":
		if len(w.acts) == 64 {
			w.trap(api.TrapDepth)
			return
		}
		w.acts = append(w.acts, &act{fn: in.A, vars: append(v, make([]any, w.m.Funcs[in.A].Locals-len(v))...)})
	case "return":
		w.back(v)
	case "less", "add", "sub", "mul", "div", "rem", "neg":
		w.reckon(a, word, v)
	case "nop", "pop":
	default:
		w.touch(a, in, word, v)
	}
}

func (w *told) back(v []any) {
	w.acts = w.acts[:len(w.acts)-1]
	if len(w.acts) > 0 {
		around := w.acts[len(w.acts)-1]
		around.stack = append(around.stack, v...)
		return
	}
	w.end(api.OK)
	if len(v) > 0 {
		w.o.Result = asNumber(v[0])
	}
}

func asNumber(v any) int {
	switch x := v.(type) {
	case int:
		return x
	case bool:
		if x {
			return 1
		}
	case *object:
		if x != nil {
			return x.ref
		}
	}
	return 0
}

// round takes a number modulo 2^32 into -2^31 to 2^31 - 1.
func round(n int) int {
	const all = 1 << 32
	n = (n%all + all) % all
	if n >= all/2 {
		n -= all
	}
	return n
}

// cut is a quotient of absolute numbers, with the sign that it has.
func cut(a, b int) int {
	n := int(math.Abs(float64(a))) / int(math.Abs(float64(b)))
	if (a < 0) != (b < 0) {
		n = -n
	}
	return n
}

func (w *told) reckon(on *act, word string, v []any) {
	a, b := v[0].(int), v[len(v)-1].(int)
	if (word == "div" || word == "rem") && b == 0 {
		w.trap(api.TrapDivide)
		return
	}
	n := 0
	switch word {
	case "less":
		on.stack = append(on.stack, a < b)
		return
	case "add":
		n = a + b
	case "sub":
		n = a - b
	case "mul":
		n = a * b
	case "div":
		n = cut(a, b)
	case "rem":
		n = a - cut(a, b)*b
	case "neg":
		n = -a
	}
	on.stack = append(on.stack, round(n))
}

// make is a new object, if there are so many cells left.
func (w *told) make(a *act, o *object, cells int) {
	if w.o.Cells+cells > w.room {
		w.trap(api.TrapRoom)
		return
	}
	w.o.Cells += cells
	w.made = append(w.made, o)
	o.ref = len(w.made)
	a.stack = append(a.stack, o)
}

func (w *told) touch(a *act, in api.Instr, word string, v []any) {
	switch word {
	case "new":
		o := &object{class: in.A}
		for _, f := range w.fields(in.A) {
			o.fields = append(o.fields, map[api.Type]any{api.TInt: 0, api.TBool: false}[f.Type])
			if f.Type != api.TInt && f.Type != api.TBool {
				o.fields[len(o.fields)-1] = (*object)(nil)
			}
		}
		w.make(a, o, 1+len(o.fields))
		return
	case "make":
		n := v[0].(int)
		switch {
		case n < 0:
			w.trap(api.TrapSize)
		case n > 5000:
			w.trap(api.TrapRoom)
		default:
			w.make(a, &object{isRow: true, row: make([]int, n)}, 1+n)
		}
		return
	}
	o := v[0].(*object)
	switch {
	case word == "cast" && o != nil && !w.below(o, w.m.Classes[in.A].Name):
		w.trap(api.TrapCast)
	case word == "cast":
		a.stack = append(a.stack, o)
	case word == "test":
		a.stack = append(a.stack, w.below(o, w.m.Classes[in.A].Name))
	case o == nil:
		w.trap(api.TrapNull)
	case word == "get":
		a.stack = append(a.stack, o.fields[in.B])
	case word == "put":
		o.fields[in.B] = v[1]
	case word == "len":
		a.stack = append(a.stack, len(o.row))
	case v[1].(int) < 0 || v[1].(int) >= len(o.row):
		w.trap(api.TrapIndex)
	case word == "at":
		a.stack = append(a.stack, o.row[v[1].(int)])
	case word == "set":
		o.row[v[1].(int)] = v[2].(int)
	}
}
