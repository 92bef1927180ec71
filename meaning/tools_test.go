package meaning_test

import (
	"fmt"
	"testing"

	"proviso/api"
	"proviso/meaning"
	"proviso/parse"
	"proviso/samples"
)

type dice = samples.Dice

func pick[T any](d *dice, l []T) T { return l[d.Below(len(l))] }

// show is all fields of an outcome; an empty list is none.
func show(o api.Outcome) string { return fmt.Sprintf("%+v", o) }

// parsed is the tree of a text that must have one.
func parsed(t *testing.T, src string) api.Program {
	t.Helper()
	p, err := parse.Parse(src)
	if err != nil {
		t.Fatalf("%.300s: %v", src, err)
	}
	return p
}

// run is what comes of a text's first function.
func run(t *testing.T, src string, fuel, room int, args ...int) api.Outcome {
	t.Helper()
	return meaning.Run(parsed(t, src), 0, args, fuel, room)
}

// try is a program, and how it is run.
type try struct {
	src        string
	p          api.Program
	entry      int
	args       []int
	fuel, room int
}

func (x try) run() api.Outcome { return meaning.Run(x.p, x.entry, x.args, x.fuel, x.room) }

func (x try) told() *world { return told(x.p, x.entry, x.args, x.fuel, x.room) }

// argument is a value of a type's word, from outside; seldom one that is none.
func argument(d *dice, of string) int {
	switch {
	case d.Below(40) == 0:
		return pick(d, samples.Numbers())
	case of == "bool":
		return d.Below(2)
	}
	return pick(d, []int{0, 1, 2, 3, 5, 9, -1, -7, 1<<31 - 1, -1 << 31, d.Below(1000)})
}

// tries are runs of texts as the dice fall: of each function that can be called from outside, and now and then of another one.
func tries(t *testing.T, seed dice, texts int, each func(d *dice, x try)) {
	d := &seed
	for i := range texts {
		src := samples.Source(d, 1+i%12)
		p := parsed(t, src)
		for entry, f := range p.Funs {
			x := try{src, p, entry, nil, d.Below(3000), d.Below(60)}
			if d.Below(8) == 0 {
				x.fuel, x.room = d.Below(30), d.Below(8)
			}
			outside := true
			for _, a := range f.Params {
				x.args = append(x.args, argument(d, a.Of))
				outside = outside && (a.Of == "int" || a.Of == "bool")
			}
			if outside || d.Below(10) == 0 {
				each(d, x)
			}
		}
	}
}
