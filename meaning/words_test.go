package meaning_test

import (
	"math"

	"proviso/api"
	"proviso/check"
)

// world is chapter 15 over again, by its words: of the tree as parse has it, by names, without types and slots.
type world struct {
	p          api.Program
	fuel, room int
	o          api.Outcome
	calls      int
	objects    []*object // reference n is the one at n - 1
	exprs      [api.NumEx]int
	stmts      [api.NumSt]int
}

// object is a record, or a row, which is of no record.
type object struct {
	record string
	fields map[string]int
	row    []int
}

// end is how a run ends ahead of its time; nil: it goes on.
type end struct {
	err  api.Errno
	trap int
}

func trapped(n int) *end { return &end{api.ErrTrap, n} }

// told is what the words make of a run.
func told(p api.Program, entry int, args []int, fuel, room int) *world {
	w := &world{p: p, fuel: fuel, room: room}
	_, err := check.Check(p)
	switch {
	case err != nil || fuel < 0 || fuel > 1<<20 || room < 0 || room > 4096:
		w.o.Err = api.ErrArg
	case entry < 0 || entry >= len(p.Funs):
		w.o.Err = api.ErrFunc
	case !taken(p.Funs[entry].Params, args):
		w.o.Err = api.ErrArgs
	default:
		v, e := w.call(p.Funs[entry], args)
		if e != nil {
			w.o.Err, w.o.Trap = e.err, e.trap
		} else {
			w.o.Result = v
		}
	}
	return w
}

func taken(params []api.Param, args []int) bool {
	if len(params) != len(args) {
		return false
	}
	for i, x := range params {
		isInt := x.Of == "int" && args[i] >= math.MinInt32 && args[i] <= math.MaxInt32
		if isBool := x.Of == "bool" && (args[i] == 0 || args[i] == 1); !isInt && !isBool {
			return false
		}
	}
	return true
}

func (w *world) used() *end {
	if w.o.Steps+1 > w.fuel {
		return &end{err: api.ErrFuel}
	}
	w.o.Steps++
	return nil
}

func (w *world) fun(name string) api.Fun {
	for _, f := range w.p.Funs {
		if f.Name == name {
			return f
		}
	}
	panic("no function " + name)
}

// line is a record and those above it.
func (w *world) line(name string) []api.Record {
	for _, r := range w.p.Records {
		if r.Name == name {
			return append([]api.Record{r}, w.line(r.Parent)...)
		}
	}
	return nil
}

func (w *world) call(f api.Fun, args []int) (int, *end) {
	if w.calls == 64 {
		return 0, trapped(api.TrapDepth)
	}
	w.calls++
	vars := map[string]int{}
	for i, x := range f.Params {
		vars[x.Name] = args[i]
	}
	how, v, e := w.all(vars, f.Body)
	w.calls--
	if how != "return" {
		v = 0
	}
	return v, e
}

// all are statements done one behind another: "", break, continue or return, and what that tells.
func (w *world) all(vars map[string]int, l []api.Stmt) (string, int, *end) {
	for _, s := range l {
		if how, v, e := w.one(vars, s); how != "" || e != nil {
			return how, v, e
		}
	}
	return "", 0, nil
}

func (w *world) one(vars map[string]int, s api.Stmt) (string, int, *end) {
	if e := w.used(); e != nil {
		return "", 0, e
	}
	w.stmts[s.Op]++
	switch s.Op {
	case api.StBreak:
		return "break", 0, nil
	case api.StContinue:
		return "continue", 0, nil
	case api.StFail:
		return "", 0, trapped(16 + s.Num)
	case api.StReturn:
		if len(s.Exprs) == 0 {
			return "return", 0, nil
		}
	case api.StSet:
		return "", 0, w.set(vars, s.Exprs[0], s.Exprs[1])
	}
	v, e := w.value(vars, s.Exprs[0])
	if e != nil {
		return "", 0, e
	}
	switch s.Op {
	case api.StVar:
		vars[s.Name] = v
	case api.StReturn:
		return "return", v, nil
	case api.StTell:
		if len(w.o.Told) == 1024 {
			return "", 0, trapped(api.TrapTold)
		}
		w.o.Told = append(w.o.Told, v)
	case api.StIf:
		if v == 1 {
			return w.all(vars, s.Body)
		}
		return w.all(vars, s.Else)
	case api.StWhile: // its next look is as if it stood there once more
		if v == 0 {
			return "", 0, nil
		}
		how, v, e := w.all(vars, s.Body)
		switch {
		case e != nil || how == "return":
			return how, v, e
		case how == "break":
			return "", 0, nil
		}
		return w.one(vars, s)
	}
	return "", 0, nil
}

func (w *world) set(vars map[string]int, left, right api.Expr) *end {
	l := append(append([]api.Expr{}, left.Kids...), right)
	v, e := w.values(vars, l)
	if e != nil {
		return e
	}
	if left.Op == api.ExName {
		vars[left.Name] = v[0]
		return nil
	}
	if v[0] == 0 {
		return trapped(api.TrapNull)
	}
	o := w.objects[v[0]-1]
	if left.Op == api.ExField {
		o.fields[left.Name] = v[1]
		return nil
	}
	if v[1] < 0 || v[1] >= len(o.row) {
		return trapped(api.TrapIndex)
	}
	o.row[v[1]] = v[2]
	return nil
}

func (w *world) values(vars map[string]int, l []api.Expr) ([]int, *end) {
	var all []int
	for _, x := range l {
		v, e := w.value(vars, x)
		if e != nil {
			return nil, e
		}
		all = append(all, v)
	}
	return all, nil
}

func (w *world) value(vars map[string]int, x api.Expr) (int, *end) {
	if e := w.used(); e != nil {
		return 0, e
	}
	w.exprs[x.Op]++
	if x.Op == api.ExAnd || x.Op == api.ExOr {
		v, e := w.value(vars, x.Kids[0])
		if e != nil || v == 0 && x.Op == api.ExAnd || v == 1 && x.Op == api.ExOr {
			return v, e
		}
		return w.value(vars, x.Kids[1])
	}
	v, e := w.values(vars, x.Kids)
	if e != nil {
		return 0, e
	}
	switch x.Op {
	case api.ExInt, api.ExBool:
		return x.Num, nil
	case api.ExNull:
		return 0, nil
	case api.ExName:
		return vars[x.Name], nil
	case api.ExCall:
		return w.call(w.fun(x.Name), v)
	case api.ExNew:
		o := &object{record: x.Name, fields: map[string]int{}}
		for _, r := range w.line(x.Name) {
			for _, f := range r.Fields {
				o.fields[f.Name] = 0
			}
		}
		return w.made(o, len(o.fields))
	case api.ExMake:
		if v[0] < 0 {
			return 0, trapped(api.TrapSize)
		}
		if v[0] > 4096 {
			return 0, trapped(api.TrapRoom)
		}
		return w.made(&object{row: make([]int, v[0])}, v[0])
	case api.ExField, api.ExAt, api.ExLen:
		if v[0] == 0 {
			return 0, trapped(api.TrapNull)
		}
		return part(w.objects[v[0]-1], x, v)
	case api.ExAs:
		if v[0] != 0 && !w.isOf(v[0], x.Name) {
			return 0, trapped(api.TrapCast)
		}
		return v[0], nil
	case api.ExIs:
		return number(w.isOf(v[0], x.Name)), nil
	}
	return reckoned(x.Op, v)
}

func (w *world) made(o *object, cells int) (int, *end) {
	if w.o.Cells+1+cells > w.room {
		return 0, trapped(api.TrapRoom)
	}
	w.o.Cells += 1 + cells
	w.objects = append(w.objects, o)
	return len(w.objects), nil
}

func part(o *object, x api.Expr, v []int) (int, *end) {
	switch {
	case x.Op == api.ExField:
		return o.fields[x.Name], nil
	case x.Op == api.ExLen:
		return len(o.row), nil
	case v[1] < 0 || v[1] >= len(o.row):
		return 0, trapped(api.TrapIndex)
	}
	return o.row[v[1]], nil
}

func (w *world) isOf(ref int, name string) bool {
	if ref == 0 {
		return false
	}
	for _, r := range w.line(w.objects[ref-1].record) {
		if r.Name == name {
			return true
		}
	}
	return false
}

func number(is bool) int {
	if is {
		return 1
	}
	return 0
}

// round takes a number modulo 2^32 into -2^31 to 2^31 - 1.
func round(n int) int {
	const all = 1 << 32
	n = (n%all + all) % all
	if n >= all/2 {
		n -= all
	}
	return n
}

// cut is a quotient of absolute numbers, with the sign that it has.
func cut(a, b int) int {
	n := int(math.Abs(float64(a))) / int(math.Abs(float64(b)))
	if (a < 0) != (b < 0) {
		n = -n
	}
	return n
}

func reckoned(op int, v []int) (int, *end) {
	if (op == api.ExDiv || op == api.ExRem) && v[1] == 0 {
		return 0, trapped(api.TrapDivide)
	}
	switch op {
	case api.ExNeg:
		return round(-v[0]), nil
	case api.ExNot:
		return 1 - v[0], nil
	case api.ExMul:
		return round(v[0] * v[1]), nil
	case api.ExDiv:
		return round(cut(v[0], v[1])), nil
	case api.ExRem:
		return round(v[0] - cut(v[0], v[1])*v[1]), nil
	case api.ExAdd:
		return round(v[0] + v[1]), nil
	case api.ExSub:
		return round(v[0] - v[1]), nil
	case api.ExLess:
		return number(v[0] < v[1]), nil
	case api.ExMost:
		return number(v[0] <= v[1]), nil
	case api.ExMore:
		return number(v[0] > v[1]), nil
	case api.ExLeast:
		return number(v[0] >= v[1]), nil
	case api.ExSame:
		return number(v[0] == v[1]), nil
	case api.ExUnlike:
		return number(v[0] != v[1]), nil
	}
	panic("no such expression")
}
