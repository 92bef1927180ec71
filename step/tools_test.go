package step_test

import (
	"math"
	"slices"
	"strconv"

	"proviso/api"
)

// dice throws the same numbers at every run.
type dice uint64

func (d *dice) below(n int) int {
	*d = *d*6364136223846793005 + 1442695040888963407
	return int(uint64(*d) >> 33 % uint64(n))
}

const (
	shape = api.TClass
	disc  = api.TClass + 1
	box   = api.TClass + 2
	list  = api.TClass + 3
)

// shapes is the table T of chapter 2.
func shapes() []api.Class {
	return []api.Class{
		{Name: "shape", Parent: -1, Fields: []api.Field{{Name: "x", Type: api.TInt}}},
		{Name: "disc", Parent: 0, Fields: []api.Field{{Name: "r", Type: api.TBool}}},
		{Name: "box", Parent: 0, Fields: []api.Field{{Name: "w", Type: api.TInts}, {Name: "in", Type: api.TAny}}},
		{Name: "list", Parent: -1, Fields: []api.Field{{Name: "next", Type: list}, {Name: "of", Type: disc}}},
	}
}

// chain is n classes, each the parent of the next one; the first ones have a field.
func chain(n int) []api.Class {
	var l []api.Class
	for c := range n {
		k := api.Class{Name: "c" + strconv.Itoa(c), Parent: c - 1}
		if c < 3 {
			k.Fields = []api.Field{{Name: "f" + strconv.Itoa(c), Type: api.TClass + api.Type(n-1-c)}}
		}
		l = append(l, k)
	}
	return l
}

// valids are the valid types of a table.
func valids(l []api.Class) []api.Type {
	all := []api.Type{api.TTop, api.TInt, api.TBool, api.TNull, api.TInts, api.TAny}
	for c := range l {
		all = append(all, api.TClass+api.Type(c))
	}
	return all
}

// ofValues are the types of values of a table.
func ofValues(l []api.Class) []api.Type {
	return slices.DeleteFunc(valids(l), func(t api.Type) bool { return t == api.TTop || t == api.TNull })
}

// of is a frame whose entries are these; the first so many are its locals.
func of(locals int, entries ...api.Type) api.Frame {
	f := api.Frame{Locals: locals, Height: len(entries) - locals}
	copy(f.Slots[:], entries)
	return f
}

// thrown is a frame of a shape, with entries as the dice fall.
func thrown(d *dice, l []api.Class, locals, height int) api.Frame {
	all := valids(l)
	f := api.Frame{Locals: locals, Height: height}
	for i := range locals + height {
		f.Slots[i] = all[d.below(len(all))]
	}
	return f
}

// world is an environment over the table T: four functions, and their numbers as Fn.
func world(fn int) api.Env {
	return api.Env{Classes: shapes(), Fn: fn, Sigs: []api.Sig{
		{Result: api.TInt},
		{Params: []api.Type{disc, api.TInt}},
		{Params: []api.Type{api.TAny, api.TBool, api.TInts}, Result: shape},
		{},
	}}
}

// worlds are environments that can be: small, and at the limits.
func worlds() []api.Env {
	all := []api.Env{{Sigs: []api.Sig{{}}}, {Classes: []api.Class{}, Sigs: []api.Sig{{Params: []api.Type{}, Result: api.TBool}}}}
	for fn := range 4 {
		all = append(all, world(fn))
	}
	d := dice(11)
	full := api.Env{Classes: chain(api.MaxClasses), Fn: api.MaxFuncs - 1}
	for range api.MaxFuncs {
		full.Sigs = append(full.Sigs, signature(&d, full.Classes, api.MaxParams))
	}
	one := full
	one.Fn = 0
	return append(all, full, one)
}

// signature is one that can be, with n parameters.
func signature(d *dice, l []api.Class, n int) api.Sig {
	all := ofValues(l)
	s := api.Sig{Result: append(all, api.TTop)[d.below(len(all)+1)]}
	for range n {
		s.Params = append(s.Params, all[d.below(len(all))])
	}
	return s
}

// cantBe are environments that can't be, each by one thing alone.
func cantBe() map[string]api.Env {
	all := map[string]api.Env{"none": {}, "no function": {Classes: shapes()}, "no Sigs, empty": {Classes: shapes(), Sigs: []api.Sig{}}}
	with := func(name string, change func(e *api.Env)) {
		e := world(0)
		change(&e)
		all[name] = e
	}
	for _, fn := range []int{-1, 4, 5, 63, 64, math.MinInt, math.MaxInt} {
		with("Fn "+strconv.Itoa(fn), func(e *api.Env) { e.Fn = fn })
	}
	with("a class's name", func(e *api.Env) { e.Classes[3].Name = "" })
	with("a class twice", func(e *api.Env) { e.Classes[3].Name = "shape" })
	with("a parent", func(e *api.Env) { e.Classes[0].Parent = 0 })
	with("a field's type", func(e *api.Env) { e.Classes[3].Fields[1].Type = api.TNull })
	with("too many classes", func(e *api.Env) { e.Classes = chain(api.MaxClasses + 1) })
	with("too many functions", func(e *api.Env) { e.Sigs = make([]api.Sig, api.MaxFuncs+1) })
	with("too many parameters", func(e *api.Env) { e.Sigs[3].Params = slices.Repeat([]api.Type{api.TInt}, api.MaxParams+1) })
	with("far too many parameters", func(e *api.Env) { e.Sigs[0].Params = slices.Repeat([]api.Type{api.TInt}, 1000) })
	for _, t := range []api.Type{api.TTop, api.TNull, 6, 15, api.TClass + 4, 255} {
		with("a parameter "+strconv.Itoa(int(t)), func(e *api.Env) { e.Sigs[2].Params[2] = t })
		with("a first parameter "+strconv.Itoa(int(t)), func(e *api.Env) { e.Sigs[2].Params[0] = t })
		if t != api.TTop {
			with("a result "+strconv.Itoa(int(t)), func(e *api.Env) { e.Sigs[3].Result = t })
			with("the own result "+strconv.Itoa(int(t)), func(e *api.Env) { e.Sigs[0].Result = t })
		}
	}
	return all
}

// huge are numbers that name nothing, and the ends of those that may.
func huge() []int {
	return []int{math.MinInt, math.MinInt + 1, math.MinInt32, -65536, -256, -17, -2, -1, 0, 1, 2, 3, 4, 5, 15, 16, 17, 31, 32, 63, 64, 240, 255, 256, 257, 65536, math.MaxInt32, 1 << 32, math.MaxInt - 16, math.MaxInt - 1, math.MaxInt}
}

// operands yields numbers for A and B: all pairs, where both name something.
func operands(op byte) func(yield func(a, b int) bool) {
	second := []int{0, -1, math.MaxInt}
	if op == api.OpGet || op == api.OpPut {
		second = huge()
	}
	return func(yield func(a, b int) bool) {
		for _, a := range huge() {
			for _, b := range second {
				if !yield(a, b) {
					return
				}
			}
		}
	}
}

// instrs are all instructions, with each pair of operands that means something to them in the table T, and one past it.
func instrs() []api.Instr {
	var all []api.Instr
	for op := range api.NumOps {
		for a := -1; a <= 4; a++ {
			for b := -1; b <= 3; b++ {
				all = append(all, api.Instr{Op: op, A: a, B: b})
			}
		}
	}
	return all
}

// stacks yields all stacks over a table up to a height.
func stacks(l []api.Class, height int) func(yield func([]api.Type) bool) {
	return func(yield func([]api.Type) bool) {
		level := [][]api.Type{nil}
		for range height + 1 {
			var next [][]api.Type
			for _, s := range level {
				if !yield(s) {
					return
				}
				for _, t := range valids(l) {
					next = append(next, append(slices.Clone(s), t))
				}
			}
			level = next
		}
	}
}
