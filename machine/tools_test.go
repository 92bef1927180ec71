package machine_test

import (
	"fmt"
	"strings"
	"testing"

	"proviso/api"
	"proviso/machine"
	"proviso/meaning"
	"proviso/samples"
)

type dice = samples.Dice

func pick[T any](d *dice, l []T) T { return l[d.Below(len(l))] }

// show is all fields of an outcome; an empty list is none.
func show(o api.Outcome) string { return fmt.Sprintf("%+v", o) }

// assembled is the code of a text that must have one.
func assembled(t *testing.T, text string) []byte {
	t.Helper()
	b, is := samples.Assembled(text)
	if !is {
		t.Fatal("no code: ", text)
	}
	return b
}

// fun is a function of a text.
func fun(t *testing.T, locals int, text string, result api.Type, params ...api.Type) api.Func {
	t.Helper()
	return api.Func{Name: "f", Sig: api.Sig{Params: params, Result: result}, Locals: locals, Code: assembled(t, text)}
}

// over is a module of functions over Shapes.
func over(l ...api.Func) api.Module {
	return api.Module{Name: "m", Classes: samples.Shapes(), Funcs: l}
}

// times is a text so many times.
func times(n int, text string) string { return strings.Repeat(text+"; ", n) }

// try is a run.
type try struct {
	m          api.Module
	entry      int
	args       []int
	fuel, room int
}

func (x try) guarded() api.Outcome { return machine.Guarded(x.m, x.entry, x.args, x.fuel, x.room) }

func (x try) bare() api.Outcome { return machine.Bare(x.m, x.entry, x.args, x.fuel, x.room) }

func (x try) begin(t *testing.T) *machine.Machine {
	t.Helper()
	r, why := machine.Begin(x.m, x.entry, x.args, x.room)
	if r == nil || why != api.OK {
		t.Fatal(x, why)
	}
	return r
}

// comesTo holds a guarded run, at once and step by step, against what must come of it.
func (x try) comesTo(t *testing.T, about string, want api.Outcome) {
	t.Helper()
	if o := x.guarded(); show(o) != show(want) {
		t.Errorf("%s\n%+v\nwanted\n%+v", about, o, want)
	}
	r, why := machine.Begin(x.m, x.entry, x.args, x.room)
	if why != api.OK {
		t.Errorf("%s: %v", about, why)
		return
	}
	for range x.fuel {
		if ended, why := r.Go(1); ended || why != api.OK {
			break
		}
	}
	if o := r.Outcome(); show(o) != show(want) {
		t.Errorf("%s, step by step\n%+v\nwanted\n%+v", about, o, want)
	}
}

// argument is a value of a type from outside; seldom one that is none.
func argument(d *dice, t api.Type) int {
	switch {
	case d.Below(60) == 0:
		return pick(d, samples.Numbers())
	case t == api.TBool:
		return d.Below(2)
	}
	return pick(d, []int{0, 1, 2, 3, 5, 9, -1, -7, 1<<31 - 1, -1 << 31, d.Below(1000)})
}

// runsOf are runs of the functions of a module that can be called from outside, and now and then of another one.
func runsOf(d *dice, m api.Module, each func(x try)) {
	for entry, f := range m.Funcs {
		x := try{m, entry, nil, d.Below(1500), d.Below(60)}
		if d.Below(8) == 0 {
			x.fuel, x.room = d.Below(30), d.Below(8)
		}
		for _, t := range f.Sig.Params {
			x.args = append(x.args, argument(d, t))
		}
		if meaning.Admits(f.Sig, x.args) || d.Below(10) == 0 {
			each(x)
		}
	}
}
