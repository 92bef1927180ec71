package infer_test

import (
	"bytes"
	"slices"
	"testing"

	"proviso/api"
	"proviso/cert"
	"proviso/infer"
	"proviso/samples"
)

// function is code where it stands.
type function struct {
	e      api.Env
	locals int
	b      []byte
}

// isInferred fails the test, if Infer or Emit does not answer what the document's words say.
func isInferred(t *testing.T, x function) api.Errno {
	t.Helper()
	want, place, err := inferred(x.e, x.locals, x.b)
	if l, at, why := infer.Infer(x.e, x.locals, x.b); !slices.Equal(l, want) || at != place || why != err {
		t.Fatalf("Infer(% x): %v, %d, %v; want %v, %d, %v", x.b, l, at, why, want, place, err)
	}
	proof, place, err := emitted(x.e, x.locals, x.b)
	if p, at, why := infer.Emit(x.e, x.locals, x.b); !bytes.Equal(p, proof) || at != place || why != err {
		t.Fatalf("Emit(% x): % x, %d, %v; want % x, %d, %v", x.b, p, at, why, proof, place, err)
	}
	return err
}

// someCode is functions of all kinds: sound for the most part, some with bytes turned.
func someCode(seed dice, n int) []function {
	d := seed
	var all []function
	for range n {
		x := function{e: samples.World(d.Below(4)), locals: 3 + d.Below(3)}
		x.b = samples.Sound(&d, x.e, x.locals, 1+d.Below(30))
		switch d.Below(5) {
		case 0:
			x.b = samples.Anything(&d, 1+d.Below(20))
		case 1:
			x.b = samples.Turned(&d, x.b)
		}
		all = append(all, x)
	}
	return all
}

// taken yields those of some functions that Infer takes, with what it answers.
func taken(t *testing.T, seed dice, n int) func(yield func(x function, l []api.Entry) bool) {
	return func(yield func(x function, l []api.Entry) bool) {
		came := 0
		for _, x := range someCode(seed, n) {
			l, _, why := infer.Infer(x.e, x.locals, x.b)
			if why != api.OK {
				continue
			}
			came++
			if !yield(x, l) {
				return
			}
		}
		if came < n/4 {
			t.Error("few are taken:", came, "of", n)
		}
	}
}

func TestP8_2And8_3HeldAgainstTheirWords(t *testing.T) {
	came := map[api.Errno]int{}
	for _, x := range someCode(3, 20000) {
		came[isInferred(t, x)]++
	}
	for _, why := range []api.Errno{api.OK, api.ErrShort, api.ErrOp, api.ErrUnder, api.ErrWant, api.ErrShape, api.ErrSlot, api.ErrTarget, api.ErrOff, api.ErrOverlap, api.ErrMember, api.ErrResult, api.ErrRange} {
		if came[why] < 20 {
			t.Error(why, "hardly comes", came)
		}
	}
}

func TestP8_2ShortCodeOfAllKinds(t *testing.T) {
	ops := []byte{0, 1, 2, 3, 4, 5, 6, 7, 19, 20, 22, 32, 200}
	for n := range 5 {
		b := make([]byte, n)
		var each func(i int)
		each = func(i int) {
			if i == n {
				isInferred(t, function{samples.One(), 1, b})
				return
			}
			for _, x := range ops {
				b[i] = x
				each(i + 1)
			}
		}
		each(0)
	}
}

// isFault fails the test, if Infer and Emit do not answer that error at that place.
func isFault(t *testing.T, name string, x function, place int, err api.Errno) {
	t.Helper()
	if l, at, why := infer.Infer(x.e, x.locals, x.b); len(l) != 0 || at != place || why != err {
		t.Errorf("%s: Infer: %v, %d, %v; want %d, %v", name, l, at, why, place, err)
	}
	if p, at, why := infer.Emit(x.e, x.locals, x.b); len(p) != 0 || at != place || why != err {
		t.Errorf("%s: Emit: % x, %d, %v; want %d, %v", name, p, at, why, place, err)
	}
}

func TestP8_2Faults(t *testing.T) {
	const (
		nop, num, boolean, pop, jump, unless, back, trap = api.OpNop, api.OpInt, api.OpBool, api.OpPop, api.OpJump, api.OpUnless, api.OpReturn, api.OpTrap
	)
	for _, x := range []struct {
		name string
		b    []byte
		at   int
		want api.Errno
	}{
		{"nil", nil, 0, api.ErrOff},
		{"none", []byte{}, 0, api.ErrOff},
		{"behind the end", []byte{nop, nop}, 1, api.ErrOff},
		{"unless at the end", []byte{boolean, 1, unless, 0, 0}, 2, api.ErrOff},
		{"unless at the end, with a target behind it", []byte{boolean, 1, unless, 0, 5}, 2, api.ErrTarget},
		{"unless far off", []byte{boolean, 1, unless, 255, 255, back}, 2, api.ErrTarget},
		{"a jump to the end", []byte{jump, 0, 3}, 0, api.ErrTarget},
		{"no instruction", []byte{nop, 34}, 1, api.ErrOp},
		{"operands cut off", []byte{nop, num, 0, 0, 0}, 1, api.ErrShort},
		{"a bool of 2", []byte{nop, boolean, 2, back}, 1, api.ErrRange},
		{"into the midst", []byte{boolean, 1, unless, 0, 1, back}, 1, api.ErrOverlap},
		{"Decode's ahead of the overlap", []byte{jump, 0, 2}, 2, api.ErrShort},
		{"around a taken one", []byte{jump, 0, 5, num, 0, jump, 0, 3, 0}, 3, api.ErrOverlap},
		{"the overlap ahead of Apply's", []byte{num, 0, 0, 0, pop, pop, jump, 0, 4}, 4, api.ErrOverlap},
		{"Apply's ahead of the target's", []byte{unless, 9, 9}, 0, api.ErrUnder},
		{"Apply's ahead of the end's", []byte{pop}, 0, api.ErrUnder},
		{"something is left", []byte{boolean, 1, back}, 2, api.ErrResult},
		{"unlike heights, at the place where they meet", []byte{boolean, 1, unless, 0, 7, boolean, 0, back}, 7, api.ErrShape},
		{"no room", bytes.Repeat([]byte{boolean, 1}, 24), 46, api.ErrOver},
		{"no such local", []byte{boolean, 1, api.OpStore, 1, back}, 2, api.ErrSlot},
		{"no such function", []byte{api.OpCall, 1, back}, 0, api.ErrFunc},
		{"no such class", []byte{api.OpNew, 0, back}, 0, api.ErrMember},
		{"nothing is known of it", []byte{api.OpLoad, 0, trap, 0}, 0, api.ErrWant},
	} {
		isFault(t, x.name, function{samples.One(), 1, x.b}, x.at, x.want)
		if _, at, why := inferred(samples.One(), 1, x.b); at != x.at || why != x.want {
			t.Error("the words of the document:", x.name, at, why)
		}
	}
}

func TestP8_2TheLeastNewAddressIsTaken(t *testing.T) {
	// bool 1 at 0, unless 8 at 2: 5 and 8 are new, and both are at fault.
	b := []byte{api.OpBool, 1, api.OpUnless, 0, 8, api.OpPop, api.OpNop, api.OpNop, api.OpAdd}
	isFault(t, "two faults", function{samples.One(), 0, b}, 5, api.ErrUnder)
	// 17 is new from the beginning on; but the jump back at 14 makes 8 new, and that is taken first.
	b = bytesOf(t,
		api.Instr{Op: api.OpBool, A: 1}, api.Instr{Op: api.OpUnless, A: 17}, // 0, 2
		api.Instr{Op: api.OpJump, A: 9},                                     // 5
		api.Instr{Op: api.OpPop},                                            // 8
		api.Instr{Op: api.OpBool, A: 1}, api.Instr{Op: api.OpUnless, A: 14}, // 9, 11
		api.Instr{Op: api.OpJump, A: 8}, // 14
		api.Instr{Op: api.OpAdd},        // 17
	)
	isFault(t, "a jump back", function{samples.One(), 0, b}, 8, api.ErrUnder)
}

func TestP8_2LimitsOfCode(t *testing.T) {
	whole := append(bytes.Repeat([]byte{api.OpNop}, api.MaxCode-1), api.OpReturn)
	l, at, why := infer.Infer(samples.One(), 16, whole)
	if len(l) != api.MaxCode || at != 0 || why != api.OK || l[4095] != (api.Entry{At: 4095, Frame: api.Frame{Locals: 16}}) {
		t.Error("MaxCode bytes", len(l), at, why)
	}
	if p, at, why := infer.Emit(samples.One(), 16, whole); len(p) != cert.HeaderBytes || at != 0 || why != api.OK {
		t.Error("MaxCode bytes", p, at, why)
	}
	long := append(bytes.Clone(whole), api.OpReturn)
	isFault(t, "one more", function{samples.One(), 16, long}, 0, api.ErrLong)
	isFault(t, "a million more", function{samples.One(), 16, make([]byte, 1<<20)}, 0, api.ErrLong)
	isFault(t, "May's ahead", function{api.Env{}, 0, long}, 0, api.ErrFunc)
	isFault(t, "May's ahead", function{samples.One(), 17, long}, 0, api.ErrArg)
	off := bytes.Repeat([]byte{api.OpNop}, api.MaxCode)
	isFault(t, "off the end", function{samples.One(), 0, off}, api.MaxCode-1, api.ErrOff)
}

func TestP8_2FramesThatMeet(t *testing.T) {
	e := samples.World(0)
	b := bytesOf(t,
		api.Instr{Op: api.OpNew, A: 1}, api.Instr{Op: api.OpStore}, // 0, 2: a disc
		api.Instr{Op: api.OpBool}, api.Instr{Op: api.OpUnless, A: 13}, // 4, 6: the loop's head is 4
		api.Instr{Op: api.OpNew, A: 2}, api.Instr{Op: api.OpStore}, // 9, 11: a box
		api.Instr{Op: api.OpJump, A: 4}, // 13
	)
	l, _, why := infer.Infer(e, 1, b)
	want := []api.Entry{{At: 0, Frame: of(1, api.TTop)}, {At: 2, Frame: of(1, api.TTop, disc)}, {At: 4, Frame: of(1, shape)}, {At: 6, Frame: of(1, shape, api.TBool)}, {At: 9, Frame: of(1, shape)}, {At: 11, Frame: of(1, shape, box)}, {At: 13, Frame: of(1, shape)}}
	if why != api.OK || !slices.Equal(l, want) {
		t.Error(l, why)
	}
}

func TestP8_2ItEndsWhereFramesSinkForLong(t *testing.T) {
	// Each way round the loop leaves a local one class higher; all of the body is gone through again for each.
	var l []api.Instr
	put := func(op byte, a int) { l = append(l, api.Instr{Op: op, A: a}) }
	const locals, deep = 4, 32
	for i := range locals {
		put(api.OpNull, 0)
		put(api.OpStore, i)
	}
	head := 3 * locals
	for range 1000 {
		put(api.OpNop, 0)
	}
	at := head + 1000
	for c := deep - 1; c >= 0; c-- {
		for i := range locals {
			put(api.OpBool, 1)
			put(api.OpUnless, at+12)
			put(api.OpNew, c)
			put(api.OpStore, i)
			put(api.OpJump, head)
			at += 12
		}
	}
	put(api.OpReturn, 0)
	b := bytesOf(t, l...)
	e := api.Env{Classes: samples.Chain(deep), Sigs: []api.Sig{{}}}
	got, place, why := infer.Infer(e, locals, b)
	if why != api.OK || place != 0 || len(got) != len(l) || got[len(got)-1].Frame != of(locals, shape, shape, shape, shape) {
		t.Error(len(got), place, why)
	}
}

func TestP8_3Emit(t *testing.T) {
	b := bytesOf(t,
		api.Instr{Op: api.OpBool, A: 1}, api.Instr{Op: api.OpUnless, A: 6}, // 0, 2
		api.Instr{Op: api.OpReturn},      // 5
		api.Instr{Op: api.OpJump, A: 10}, // 6
		api.Instr{Op: api.OpNop},         // 9: nothing comes there
		api.Instr{Op: api.OpTrap, A: 3},  // 10
		api.Instr{Op: api.OpNop},         // 12: nor there
		api.Instr{Op: api.OpReturn},      // 13: nor there
	)
	p, at, why := infer.Emit(samples.One(), 2, b)
	c, _, bad := cert.Decode(p)
	want := []api.Entry{{At: 6, Frame: of(2, 0, 0)}, {At: 9, Dead: true}, {At: 10, Frame: of(2, 0, 0)}, {At: 12, Dead: true}}
	if at != 0 || why != api.OK || bad != api.OK || c.Locals != 2 || !slices.Equal(c.Entries, want) {
		t.Error(c, at, why, bad)
	}
	if p, _, why := infer.Emit(samples.One(), 0, bytesOf(t, api.Instr{Op: api.OpNop}, api.Instr{Op: api.OpTrap})); why != api.OK || len(p) != cert.HeaderBytes {
		t.Error("nothing stands behind the last one", p, why)
	}
}

func TestP8_3ManyEntries(t *testing.T) {
	// All of 16 bytes of locals at as many addresses as code can have: jumps one behind another.
	var l []api.Instr
	for n := range api.MaxCode / 3 {
		l = append(l, api.Instr{Op: api.OpJump, A: (n + 1) * 3})
	}
	b := bytesOf(t, append(l, api.Instr{Op: api.OpReturn})...)
	if len(b) != api.MaxCode {
		t.Fatal(len(b))
	}
	p, at, why := infer.Emit(samples.One(), 16, b)
	c, _, bad := cert.Decode(p)
	if at != 0 || why != api.OK || bad != api.OK || len(c.Entries) != api.MaxCode/3 || len(p) != cert.HeaderBytes+(4+16)*(api.MaxCode/3) {
		t.Error(len(p), len(c.Entries), at, why, bad)
	}
	dead := append(bytes.Repeat([]byte{api.OpReturn}, api.MaxCode-1), 255)
	if p, _, why := infer.Emit(samples.One(), 0, dead); why != api.OK || !bytes.Equal(p[6:], []byte{0, 1, 0}) {
		t.Error(p, why)
	}
}

func TestExamplesOfChapter8(t *testing.T) {
	for i, x := range []struct {
		b    []byte
		want []api.Entry
		p    []byte
	}{
		{[]byte{1, 0, 0, 0, 1, 5, 0, 22}, []api.Entry{{At: 0, Frame: of(1, 0)}, {At: 5, Frame: of(1, 0, api.TInt)}, {At: 7, Frame: of(1, api.TInt)}}, []byte{0x70, 0x76, 1, 1, 0, 0}},
		{[]byte{2, 1, 20, 0, 8, 19, 0, 8, 22}, []api.Entry{{At: 0, Frame: of(1, 0)}, {At: 2, Frame: of(1, 0, api.TBool)}, {At: 5, Frame: of(1, 0)}, {At: 8, Frame: of(1, 0)}}, []byte{0x70, 0x76, 1, 1, 0, 1, 0, 8, 1, 0, 0}},
		{[]byte{19, 0, 4, 200, 22}, []api.Entry{{At: 0, Frame: of(1, 0)}, {At: 4, Frame: of(1, 0)}}, []byte{0x70, 0x76, 1, 1, 0, 2, 0, 3, 0, 0, 4, 1, 0, 0}},
	} {
		l, at, why := infer.Infer(samples.One(), 1, x.b)
		if !slices.Equal(l, x.want) || at != 0 || why != api.OK {
			t.Error(i, l, at, why)
		}
		if p, at, why := infer.Emit(samples.One(), 1, x.b); !bytes.Equal(p, x.p) || at != 0 || why != api.OK {
			t.Error(i, p, at, why)
		}
	}
	for _, x := range []struct {
		b    []byte
		at   int
		want api.Errno
	}{
		{[]byte{1, 0, 0, 0, 1, 19, 0, 0}, 0, api.ErrShape},
		{[]byte{0}, 0, api.ErrOff},
		{nil, 0, api.ErrOff},
		{[]byte{19, 0, 1}, 1, api.ErrOverlap},
		{[]byte{19, 0, 9}, 0, api.ErrTarget},
		{[]byte{9}, 0, api.ErrUnder},
	} {
		isFault(t, "example 4", function{samples.One(), 1, x.b}, x.at, x.want)
	}
	l, _, why := infer.Infer(samples.One(), 1, []byte{2, 1, 20, 0, 14, 1, 0, 0, 0, 1, 5, 0, 0, 0, 22})
	if why != api.OK || len(l) == 0 || l[len(l)-1] != (api.Entry{At: 14, Frame: of(1, api.TTop)}) {
		t.Error(l, why)
	}
}
