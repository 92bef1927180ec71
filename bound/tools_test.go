package bound_test

import (
	"fmt"
	"slices"
	"strings"
	"testing"

	"proviso/api"
	"proviso/bound"
	"proviso/code"
	"proviso/gen"
	"proviso/infer"
	"proviso/samples"
	"proviso/step"
)

type dice = samples.Dice

const none = api.TTop

func pick[T any](d *dice, l []T) T { return l[d.Below(len(l))] }

// show is all fields of a thing; an empty list is none.
func show(x any) string { return fmt.Sprintf("%+v", x) }

// fun is a function of a text.
func fun(t *testing.T, locals int, text string, result api.Type, params ...api.Type) api.Func {
	t.Helper()
	b, is := samples.Assembled(text)
	if !is {
		t.Fatal("no code: ", text)
	}
	return api.Func{Name: "f", Sig: api.Sig{Params: params, Result: result}, Locals: locals, Code: b}
}

// over is a module of functions over Shapes.
func over(l ...api.Func) api.Module {
	return api.Module{Name: "m", Classes: samples.Shapes(), Funcs: l}
}

// texts is a module over Shapes of functions without locals, that take and give nothing.
func texts(t *testing.T, l ...string) api.Module {
	t.Helper()
	m := over()
	for _, text := range l {
		m.Funcs = append(m.Funcs, fun(t, 0, text, none))
	}
	return m
}

// times is a text so many times.
func times(n int, text string) string { return strings.Repeat(text+"; ", n) }

func is(n int) api.Reckoned { return api.Reckoned{Most: n, Is: true} }

// not is no bound.
func not() api.Reckoned { return api.Reckoned{} }

// isBounded holds Of, and all else that is told of a module that is not too great for it, against what must be told.
func isBounded(t *testing.T, about string, m api.Module, fn int, want api.Bounds) {
	t.Helper()
	if b, n, why := bound.Of(m, fn); b != want || n != 0 || why != api.OK {
		t.Errorf("%s: %+v %d %v, wanted %+v", about, b, n, why, want)
	}
	size := 0
	for _, f := range m.Funcs {
		size += len(f.Code)
	}
	if size < 2000 {
		isTold(t, m)
	}
}

// isTold holds all calls, of all functions of a module, against the chapter's words.
func isTold(t *testing.T, m api.Module) {
	t.Helper()
	w := toldOf(m)
	fault := func(about string, got, want any) {
		t.Helper()
		if show(got) != show(want) {
			t.Fatalf("%s: %+v, wanted %+v\n%+v", about, got, want, m)
		}
	}
	for fn := -1; fn <= len(m.Funcs); fn++ {
		calls, at, why := bound.Calls(m, fn)
		fault("Calls", []any{calls, at, why}, w.calls(fn))
		height, at, why := bound.Height(m, fn)
		fault("Height", []any{height, at, why}, w.height(fn))
		loops, at, why := bound.Loops(m, fn)
		fault("Loops", []any{loops, at, why}, w.loops(fn))
		b, n, why := bound.Of(m, fn)
		fault("Of", []any{b, n, why}, w.of(fn))
	}
	rings, n, why := bound.Rings(m)
	fault("Rings", []any{rings, n, why}, w.rings())
}

// compiled is the module of a source text.
func compiled(t *testing.T, src string) api.Module {
	t.Helper()
	m, err := gen.Compile("m", src)
	if err != nil {
		t.Fatal(src, err)
	}
	return m
}

// spoilt is a module with something of it another one.
func spoilt(d *dice, m api.Module) api.Module {
	m.Funcs = slices.Clone(m.Funcs)
	f := &m.Funcs[d.Below(len(m.Funcs))]
	switch d.Below(12) {
	case 0:
		f.Code = samples.Anything(d, 1+d.Below(30))
	case 1:
		f.Locals = d.Below(18)
	case 2:
		f.Sig.Result = api.Type(d.Below(21))
	default:
		f.Code = samples.Turned(d, f.Code)
	}
	return m
}

// ahead is a module of n functions that take and give nothing. Its jumps lead forward, and its calls to functions behind, but for few: so most of it has bounds.
func ahead(d *dice, n int) api.Module {
	m := over()
	for fn := range n {
		var l []api.Instr
		for range d.Below(14) {
			l = append(l, piece(d, fn, n)...)
		}
		l = led(d, append(l, api.Instr{Op: api.OpReturn}), n)
		b, _, _ := code.All(l)
		m.Funcs = append(m.Funcs, api.Func{Name: "f", Locals: d.Below(5), Code: b})
	}
	return m
}

// piece is a few instructions that leave the stack as it was; jumps have no A yet.
func piece(d *dice, fn, n int) []api.Instr {
	call := api.Instr{Op: api.OpNop}
	switch {
	case d.Below(60) == 0:
		call = api.Instr{Op: api.OpCall, A: d.Below(n)}
	case fn+1 < n:
		call = api.Instr{Op: api.OpCall, A: fn + 1 + d.Below(n-fn-1)}
	}
	class := func() api.Instr { return api.Instr{Op: api.OpNew, A: d.Below(4)} }
	truth := func() api.Instr { return api.Instr{Op: api.OpBool, A: d.Below(2)} }
	if d.Below(60) == 0 {
		return []api.Instr{{Op: api.OpInt, A: 3}, {Op: api.OpMake}, {Op: api.OpPop}}
	}
	return pick(d, [][]api.Instr{
		{call}, {call}, {call},
		{{Op: api.OpNop}},
		{class(), {Op: api.OpPop}},
		{class(), class(), {Op: api.OpIs}, {Op: api.OpUnless}},
		{{Op: api.OpInt, A: 3}, {Op: api.OpTell}},
		{truth(), {Op: api.OpUnless}},
		{truth(), {Op: api.OpUnless}},
		{truth(), {Op: api.OpUnless}, {Op: pick(d, []byte{api.OpReturn, api.OpTrap, api.OpJump})}},
	})
}

// led is instructions, of one of n functions that take and give nothing, whose jumps lead to where the stack is empty.
func led(d *dice, l []api.Instr, n int) []api.Instr {
	var empty []int // addresses
	at, height := 0, 0
	e := api.Env{Classes: samples.Shapes(), Sigs: make([]api.Sig, n)}
	for i, in := range l {
		l[i].At = at
		if height == 0 {
			empty = append(empty, at)
		}
		takes, _ := step.Takes(e, in)
		gives, _ := step.Gives(e, in)
		height += gives - takes
		at += code.Size(in.Op)
	}
	for i, in := range l {
		if code.Jumps(in.Op) {
			behind := slices.IndexFunc(empty, func(at int) bool { return at > in.At })
			l[i].A = pick(d, empty[behind:])
			if d.Below(80) == 0 {
				l[i].A = pick(d, empty)
			}
		}
	}
	return l
}

// accepted tells whether infer takes all functions of a module.
func accepted(m api.Module) bool {
	_, _, _, why := infer.Module(m)
	return why == api.OK
}
