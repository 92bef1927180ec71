package infer_test

import (
	"testing"

	"proviso/api"
	"proviso/code"
	"proviso/samples"
)

type dice = samples.Dice

const (
	shape = samples.Shape
	disc  = samples.Disc
	box   = samples.Box
)

// of is a frame whose entries are these; the first so many are its locals.
func of(locals int, entries ...api.Type) api.Frame { return samples.Frame(locals, entries...) }

// bytesOf is the code of instructions.
func bytesOf(t *testing.T, l ...api.Instr) []byte {
	t.Helper()
	b, _, e := code.All(l)
	if e != api.OK {
		t.Fatal(l, e)
	}
	return b
}
