package onepass_test

import (
	"bytes"
	"slices"
	"testing"

	"proviso/api"
	"proviso/cert"
	"proviso/onepass"
	"proviso/samples"
)

func sameGhost(a, b api.Ghost) bool {
	return slices.Equal(a.Fetched, b.Fetched) && a.Compared == b.Compared
}

// isChecked fails the test, if Check does not answer what the document's words say.
func isChecked(t *testing.T, x function) api.Errno {
	t.Helper()
	want, place, err := answered(x)
	if g, at, why := onepass.Check(x.e, x.locals, x.b, x.proof); !sameGhost(g, want) || at != place || why != err {
		t.Fatalf("Check(% x, % x): %v, %d, %v; want %v, %d, %v", x.b, x.proof, g, at, why, want, place, err)
	}
	return err
}

func TestP9_1HeldAgainstItsWords(t *testing.T) {
	came := map[api.Errno]int{}
	for _, x := range someCode(3, 30000) {
		came[isChecked(t, x)]++
	}
	for _, why := range []api.Errno{
		api.OK, api.ErrOff, api.ErrTarget, api.ErrEntry, api.ErrMissing, api.ErrDead, api.ErrMisfit, api.ErrStray, api.ErrShape,
		api.ErrShort, api.ErrMore, api.ErrRange, api.ErrOp, api.ErrUnder, api.ErrWant, api.ErrSlot, api.ErrMember, api.ErrResult,
		api.ErrOrder, api.ErrCode, api.ErrKind, api.ErrHead,
	} {
		if came[why] < 10 {
			t.Error(why, "hardly comes", came)
		}
	}
}

func TestP9_1ShortCodeOfAllKinds(t *testing.T) {
	ops := []byte{0, 2, 3, 4, 6, 19, 20, 22, 32, 200}
	var proofs [][]byte
	kinds := []api.Entry{{Dead: true}, {Frame: of(1, 0)}, {Frame: of(1, api.TBool)}, {Frame: of(1, 0, api.TBool)}}
	for at := range 7 {
		for _, x := range kinds {
			x.At = at
			proofs = append(proofs, proofOf(t, 1, x))
			for more := at + 1; more < 5; more++ {
				for _, y := range kinds[:3] {
					y.At = more
					proofs = append(proofs, proofOf(t, 1, x, y))
				}
			}
		}
	}
	proofs = append(proofs, proofOf(t, 1))
	for n := range 5 {
		b := make([]byte, n)
		var each func(i int)
		each = func(i int) {
			if i == n {
				for _, p := range proofs {
					isChecked(t, function{samples.One(), 1, b, p})
				}
				return
			}
			for _, x := range ops {
				b[i] = x
				each(i + 1)
			}
		}
		each(0)
	}
}

// isFault fails the test, if Check does not answer that error at that place; or the document's words don't.
func isFault(t *testing.T, name string, x function, place int, err api.Errno) {
	t.Helper()
	if g, at, why := onepass.Check(x.e, x.locals, x.b, x.proof); !sameGhost(g, api.Ghost{}) || at != place || why != err {
		t.Errorf("%s: Check: %v, %d, %v; want %d, %v", name, g, at, why, place, err)
	}
	if _, at, why := answered(x); at != place || why != err {
		t.Errorf("the words of the document: %s: %d, %v", name, at, why)
	}
}

// isTaken fails the test, if Check does not answer that Ghost.
func isTaken(t *testing.T, name string, x function, compared int, fetched ...int) {
	t.Helper()
	if g, at, why := onepass.Check(x.e, x.locals, x.b, x.proof); !slices.Equal(g.Fetched, fetched) || g.Compared != compared || at != 0 || why != api.OK {
		t.Errorf("%s: Check: %v, %d, %v; want %d, %v", name, g, at, why, compared, fetched)
	}
}

const (
	nop, num, boolean, pop, jump, unless, back, trap = api.OpNop, api.OpInt, api.OpBool, api.OpPop, api.OpJump, api.OpUnless, api.OpReturn, api.OpTrap
)

// none is an entry with the frame of no locals and an empty stack.
func none(at int) api.Entry { return api.Entry{At: at} }

func dead(at int) api.Entry { return api.Entry{At: at, Dead: true} }

func with(at int, stack ...api.Type) api.Entry { return api.Entry{At: at, Frame: of(0, stack...)} }

func TestP9_1Faults(t *testing.T) {
	for _, x := range []struct {
		name string
		b    []byte
		l    []api.Entry
		at   int
		want api.Errno
	}{
		{"dead where code comes", []byte{nop, back}, []api.Entry{dead(1)}, 1, api.ErrDead},
		{"dead at the beginning", []byte{back}, []api.Entry{dead(0)}, 0, api.ErrDead},
		{"a frame that is not of the entry's", []byte{boolean, 1, pop, back}, []api.Entry{with(2, api.TInt)}, 2, api.ErrMisfit},
		{"at the beginning", []byte{back}, []api.Entry{with(0, api.TInt)}, 0, api.ErrMisfit},
		{"nothing is said behind a return", []byte{back, back}, nil, 1, api.ErrMissing},
		{"behind a trap", []byte{trap, 0, back}, nil, 2, api.ErrMissing},
		{"behind a jump", []byte{jump, 0, 0, back}, []api.Entry{none(0)}, 3, api.ErrMissing},
		{"what is said further behind does not help", []byte{back, nop, back}, []api.Entry{none(2)}, 1, api.ErrMissing},
		{"no instruction", []byte{nop, 34}, nil, 1, api.ErrOp},
		{"operands cut off", []byte{nop, num, 0, 0, 0}, nil, 1, api.ErrShort},
		{"a bool of 2", []byte{nop, boolean, 2, back}, nil, 1, api.ErrRange},
		{"Decode's ahead of a stray entry", []byte{boolean, 2, back}, []api.Entry{none(1)}, 0, api.ErrRange},
		{"a stray entry ahead of Apply's", []byte{unless, 0, 0, back}, []api.Entry{dead(2)}, 2, api.ErrStray},
		{"the first stray one", []byte{num, 0, 0, 0, 0, pop, back}, []api.Entry{dead(2), none(3), dead(4)}, 2, api.ErrStray},
		{"right behind is not stray", []byte{boolean, 1, pop, pop}, []api.Entry{with(2, api.TBool)}, 3, api.ErrUnder},
		{"Apply's ahead of the target's", []byte{unless, 9, 9, back}, nil, 0, api.ErrUnder},
		{"Apply's ahead of the end's", []byte{pop}, nil, 0, api.ErrUnder},
		{"a jump to the end", []byte{jump, 0, 3}, nil, 0, api.ErrTarget},
		{"a jump far off, with an entry there", []byte{jump, 0, 9}, []api.Entry{none(9)}, 0, api.ErrTarget},
		{"unless far off", []byte{boolean, 1, unless, 255, 255, back}, nil, 2, api.ErrTarget},
		{"a jump to where nothing is said", []byte{boolean, 1, unless, 0, 5, back}, nil, 2, api.ErrMissing},
		{"back to where nothing is said", []byte{nop, jump, 0, 0}, nil, 1, api.ErrMissing},
		{"into the midst of itself", []byte{jump, 0, 1}, []api.Entry{none(1)}, 1, api.ErrStray},
		{"bytes of a dead stretch are no instructions: the nops behind one are", []byte{jump, 0, 4, num, 0, 0, 0, 0}, []api.Entry{dead(3), none(4)}, 7, api.ErrOff},
		{"to a dead one", []byte{boolean, 1, unless, 0, 6, back, back}, []api.Entry{dead(6)}, 2, api.ErrDead},
		{"with another height", []byte{boolean, 1, unless, 0, 7, boolean, 0, pop, back}, []api.Entry{with(7, api.TBool)}, 2, api.ErrMisfit},
		{"with another type", []byte{boolean, 1, jump, 0, 5, pop, back}, []api.Entry{with(5, api.TInt)}, 2, api.ErrMisfit},
		{"the target ahead of the end", []byte{boolean, 1, unless, 0, 5}, nil, 2, api.ErrTarget},
		{"a missing entry ahead of the end", []byte{boolean, 1, unless, 0, 0}, nil, 2, api.ErrMissing},
		{"a misfit ahead of the end", []byte{boolean, 1, unless, 0, 2}, []api.Entry{with(2, api.TBool)}, 2, api.ErrMisfit},
		{"unless at the end", []byte{boolean, 1, unless, 0, 0}, []api.Entry{none(0)}, 2, api.ErrOff},
		{"off the end", []byte{nop, nop}, nil, 1, api.ErrOff},
		{"off the end, with an entry behind it", []byte{nop}, []api.Entry{none(1)}, 0, api.ErrOff},
		{"an entry at the end", []byte{back}, []api.Entry{none(1)}, 1, api.ErrStray},
		{"a dead one at the end", []byte{back}, []api.Entry{dead(1)}, 1, api.ErrStray},
		{"a dead one far behind", []byte{back}, []api.Entry{dead(4095)}, 4095, api.ErrStray},
		{"the first one behind the end", []byte{back, 99}, []api.Entry{dead(1), dead(7), none(8)}, 7, api.ErrStray},
		{"behind a dead stretch", []byte{back, 99}, []api.Entry{dead(1), none(2)}, 2, api.ErrStray},
		{"what is wrong behind a dead stretch", []byte{back, 99, 99, pop, back}, []api.Entry{dead(1), none(3)}, 3, api.ErrUnder},
		{"no such function", []byte{api.OpCall, 1, back}, nil, 0, api.ErrFunc},
		{"no such class", []byte{api.OpNew, 0, back}, nil, 0, api.ErrMember},
		{"no such local", []byte{api.OpLoad, 0, back}, nil, 0, api.ErrSlot},
		{"something is left", []byte{boolean, 1, back}, nil, 2, api.ErrResult},
		{"no room", bytes.Repeat([]byte{boolean, 1}, 25), nil, 48, api.ErrOver},
	} {
		isFault(t, x.name, function{samples.One(), 0, x.b, proofOf(t, 0, x.l...)}, x.at, x.want)
	}
}

func TestP9_1Taken(t *testing.T) {
	for _, x := range []struct {
		name     string
		b        []byte
		l        []api.Entry
		compared int
		fetched  []int
	}{
		{"one trap", []byte{trap, 3}, nil, 0, []int{0}},
		{"an entry that says what is known", []byte{nop, back}, []api.Entry{none(0), none(1)}, 2, []int{0, 1}},
		{"a dead byte behind the end of a loop", []byte{nop, jump, 0, 0, 255}, []api.Entry{none(0), dead(4)}, 2, []int{0, 1}},
		{"a dead stretch in the midst", []byte{jump, 0, 5, 255, 255, back}, []api.Entry{dead(3), none(5)}, 1, []int{0, 5}},
		{"two dead stretches, one behind the other", []byte{back, 99, 99, 99}, []api.Entry{dead(1), dead(2)}, 0, []int{0}},
		{"dead up to where a frame is said, though nothing comes there", []byte{back, 99, pop, back}, []api.Entry{dead(1), with(2, api.TTop)}, 0, []int{0, 2, 3}},
		{"a frame right behind an end, though nothing comes there", []byte{back, pop, back}, []api.Entry{with(1, api.TInts)}, 0, []int{0, 1, 2}},
		{"less is said than is known", []byte{boolean, 1, boolean, 0, pop, pop, back}, []api.Entry{with(4, api.TTop, api.TBool)}, 1, []int{0, 2, 4, 5, 6}},
		{"one step ahead", []byte{boolean, 1, unless, 0, 5, back}, []api.Entry{none(5)}, 2, []int{0, 2, 5}},
		{"both ways to one place, and back", []byte{boolean, 1, unless, 0, 0, boolean, 0, unless, 0, 0, back}, []api.Entry{none(0)}, 3, []int{0, 2, 5, 7, 10}},
	} {
		isTaken(t, x.name, function{samples.One(), 0, x.b, proofOf(t, 0, x.l...)}, x.compared, x.fetched...)
	}
}

func TestP9_1AnEntryIsTheFrameFromThereOn(t *testing.T) {
	b := bytesOf(t, api.Instr{Op: api.OpNew, A: 1}, api.Instr{Op: api.OpStore}, api.Instr{Op: api.OpLoad}, api.Instr{Op: api.OpGet, A: 1}, api.Instr{Op: api.OpPop}, api.Instr{Op: api.OpReturn})
	for _, x := range []struct {
		says api.Type
		at   int
		want api.Errno
	}{{disc, 0, api.OK}, {shape, 6, api.ErrWant}, {api.TAny, 6, api.ErrWant}, {api.TTop, 4, api.ErrWant}, {box, 4, api.ErrMisfit}, {api.TNull, 4, api.ErrMisfit}} {
		p := proofOf(t, 1, api.Entry{At: 4, Frame: of(1, x.says)})
		if _, at, why := onepass.Check(samples.World(0), 1, b, p); at != x.at || why != x.want {
			t.Error(x.says, at, why)
		}
	}
}

func TestP9_1WhichErrorIsFirst(t *testing.T) {
	long, cut := make([]byte, 4097), []byte{0x70, 0x76, 1}
	noClass := proofOf(t, 1, api.Entry{At: 3, Frame: of(1, box)}, api.Entry{At: 4, Frame: of(1, shape)})
	bad := samples.One()
	bad.Sigs[0].Result = api.TNull
	for _, x := range []struct {
		name  string
		x     function
		place int
		want  api.Errno
	}{
		{"the environment ahead of all", function{api.Env{}, -1, long, cut}, 0, api.ErrArg},
		{"a signature that can't be", function{bad, 0, []byte{back}, proofOf(t, 0)}, 0, api.ErrArg},
		{"locals ahead of the code's length", function{samples.One(), 17, long, cut}, 0, api.ErrArg},
		{"the code's length ahead of the certificate", function{samples.One(), 0, long, cut}, 0, api.ErrLong},
		{"no code ahead of the certificate", function{samples.One(), 0, nil, cut}, 0, api.ErrOff},
		{"no code", function{samples.One(), 0, []byte{}, proofOf(t, 0)}, 0, api.ErrOff},
		{"the certificate's bytes ahead of the pass", function{samples.One(), 0, []byte{99}, cut}, 3, api.ErrShort},
		{"its place", function{samples.One(), 0, []byte{back}, append(proofOf(t, 0), 1)}, 6, api.ErrMore},
		{"no certificate", function{samples.One(), 0, []byte{back}, nil}, 0, api.ErrShort},
		{"frames ahead of its Locals", function{samples.One(), 0, []byte{99}, noClass}, 3, api.ErrEntry},
		{"the first frame that can't be", function{api.Env{Classes: samples.Chain(1), Sigs: []api.Sig{{}}}, 1, []byte{99}, noClass}, 3, api.ErrEntry},
		{"Locals ahead of the pass", function{samples.One(), 0, []byte{99}, proofOf(t, 1)}, 0, api.ErrShape},
		{"Locals, of entries of another shape", function{samples.One(), 2, []byte{back}, proofOf(t, 1, api.Entry{Frame: of(1, 0)})}, 0, api.ErrShape},
		{"the pass", function{samples.One(), 0, []byte{99}, proofOf(t, 0)}, 0, api.ErrOp},
	} {
		isFault(t, x.name, x.x, x.place, x.want)
	}
}

func TestP9_1Environments(t *testing.T) {
	nine := slices.Repeat([]api.Type{api.TInt}, 9)
	for _, x := range []struct {
		name   string
		e      api.Env
		locals int
		want   api.Errno
	}{
		{"one function", samples.One(), 0, api.OK},
		{"no function", api.Env{}, 0, api.ErrArg},
		{"MaxLocals", samples.One(), 16, api.OK},
		{"one more", samples.One(), 17, api.ErrArg},
		{"locals below 0", samples.One(), -1, api.ErrArg},
		{"MaxParams", api.Env{Sigs: []api.Sig{{Params: nine[:8]}}}, 8, api.OK},
		{"fewer locals than Params", api.Env{Sigs: []api.Sig{{Params: nine[:8]}}}, 7, api.ErrArg},
		{"of another function", api.Env{Sigs: []api.Sig{{}, {Params: nine[:8]}}}, 0, api.OK},
		{"one of Params more", api.Env{Sigs: []api.Sig{{Params: nine}}}, 9, api.ErrArg},
		{"of another function", api.Env{Sigs: []api.Sig{{}, {Params: nine}}}, 0, api.ErrArg},
		{"MaxFuncs", api.Env{Sigs: make([]api.Sig, 64), Fn: 63}, 0, api.OK},
		{"one more", api.Env{Sigs: make([]api.Sig, 65)}, 0, api.ErrArg},
		{"Fn behind the last", api.Env{Sigs: make([]api.Sig, 2), Fn: 2}, 0, api.ErrArg},
		{"Fn below 0", api.Env{Sigs: make([]api.Sig, 2), Fn: -1}, 0, api.ErrArg},
		{"MaxClasses", api.Env{Classes: samples.Chain(32), Sigs: []api.Sig{{}, {Params: []api.Type{api.TClass + 31}}}}, 0, api.OK},
		{"one more", api.Env{Classes: samples.Chain(33), Sigs: []api.Sig{{}}}, 0, api.ErrArg},
		{"a table that can't be", api.Env{Classes: []api.Class{{Name: "a"}}, Sigs: []api.Sig{{}}}, 0, api.ErrArg},
		{"a parameter of no class", api.Env{Classes: samples.Chain(2), Sigs: []api.Sig{{}, {Params: []api.Type{api.TClass + 2}}}}, 0, api.ErrArg},
		{"a parameter of which nothing is known", api.Env{Sigs: []api.Sig{{}, {Params: []api.Type{api.TTop}}}}, 0, api.ErrArg},
	} {
		y := function{x.e, x.locals, []byte{back}, proofOf(t, max(0, min(16, x.locals)))}
		if why := isChecked(t, y); why != x.want {
			t.Error(x.name, why)
		}
	}
	for n := range 9 {
		e := api.Env{Sigs: []api.Sig{{}, {Params: slices.Repeat([]api.Type{api.TBool}, n)}}, Fn: 1}
		for _, locals := range append(samples.Numbers(), 4, 5, 6, 7, 8, 9) {
			want := api.ErrArg
			if locals >= n && locals <= 16 {
				want = api.OK
			}
			if why := isChecked(t, function{e, locals, []byte{back}, proofOf(t, max(0, min(16, locals)))}); why != want {
				t.Error(n, locals, why)
			}
		}
	}
}

func TestP9_1Limits(t *testing.T) {
	whole := append(bytes.Repeat([]byte{nop}, api.MaxCode-1), back)
	g, at, why := onepass.Check(samples.One(), 16, whole, proofOf(t, 16))
	if len(g.Fetched) != api.MaxCode || g.Compared != 0 || at != 0 || why != api.OK {
		t.Error("MaxCode bytes", len(g.Fetched), at, why)
	}
	isFault(t, "one more", function{samples.One(), 16, append(bytes.Clone(whole), back), proofOf(t, 16)}, 0, api.ErrLong)
	isFault(t, "a million", function{samples.One(), 0, make([]byte, 1<<20), proofOf(t, 0)}, 0, api.ErrLong)
	isFault(t, "off the end", function{samples.One(), 0, make([]byte, api.MaxCode), proofOf(t, 0)}, api.MaxCode-1, api.ErrOff)
	var all []api.Entry
	for at := range api.MaxCode {
		all = append(all, api.Entry{At: at, Frame: api.Frame{Locals: 16}})
	}
	g, at, why = onepass.Check(samples.One(), 16, whole, proofOf(t, 16, all...))
	if len(g.Fetched) != api.MaxCode || g.Compared != api.MaxEntries || at != 0 || why != api.OK {
		t.Error("MaxEntries", len(g.Fetched), g.Compared, at, why)
	}
	isFault(t, "all of them, of less code", function{samples.One(), 16, whole[1:], proofOf(t, 16, all...)}, api.MaxCode-1, api.ErrStray)
	last := bytesOf(t, append(slices.Repeat([]api.Instr{{Op: api.OpNop}}, api.MaxCode-3), api.Instr{Op: api.OpJump, A: api.MaxCode - 3})...)
	g, at, why = onepass.Check(samples.One(), 0, last, proofOf(t, 0, none(api.MaxCode-3)))
	if len(g.Fetched) != api.MaxCode-2 || g.Compared != 2 || at != 0 || why != api.OK {
		t.Error("a jump to the last instruction", len(g.Fetched), g.Compared, at, why)
	}
}

func TestExamplesOfChapter9(t *testing.T) {
	empty, whole := proofOf(t, 0), func(l ...api.Entry) []byte { return proofOf(t, 0, l...) }
	if len(empty) != cert.HeaderBytes {
		t.Error(empty)
	}
	isTaken(t, "return", function{samples.One(), 0, []byte{0x16}, empty}, 0, 0)
	isFault(t, "nop", function{samples.One(), 0, []byte{0}, empty}, 0, api.ErrOff)
	isFault(t, "jump 0", function{samples.One(), 0, []byte{0x13, 0, 0}, empty}, 0, api.ErrMissing)
	isTaken(t, "jump 0, with an entry", function{samples.One(), 0, []byte{0x13, 0, 0}, whole(none(0))}, 2, 0)
	isFault(t, "return, ff", function{samples.One(), 0, []byte{0x16, 0xff}, empty}, 1, api.ErrMissing)
	isTaken(t, "with a dead entry", function{samples.One(), 0, []byte{0x16, 0xff}, whole(dead(1))}, 0, 0)
	isFault(t, "with an entry 2", function{samples.One(), 0, []byte{0x16, 0xff}, whole(none(2))}, 1, api.ErrMissing)
	isFault(t, "an entry at 1", function{samples.One(), 0, []byte{2, 1, 6, 0x16}, whole(none(1))}, 1, api.ErrStray)
}

func TestExamplesOfTheWhole(t *testing.T) {
	// 2 to 5 of DOC.md's ten: while n > 0 { n = n - 1; }, and code behind the return to which nothing leads.
	e := api.Env{Sigs: []api.Sig{{Params: []api.Type{api.TInt}}}}
	b := bytesOf(t,
		api.Instr{Op: api.OpInt}, api.Instr{Op: api.OpLoad}, api.Instr{Op: api.OpLess}, api.Instr{Op: api.OpUnless, A: 22}, // 0, 5, 7, 8
		api.Instr{Op: api.OpLoad}, api.Instr{Op: api.OpNeg}, api.Instr{Op: api.OpNeg}, api.Instr{Op: api.OpStore}, api.Instr{Op: api.OpNop}, api.Instr{Op: api.OpNop}, // 11, 13, 14, 15, 17, 18
		api.Instr{Op: api.OpJump},                             // 19
		api.Instr{Op: api.OpReturn}, api.Instr{Op: api.OpNop}, // 22, 23
	)
	head, behind, last := api.Entry{Frame: of(1, api.TInt)}, api.Entry{At: 22, Frame: of(1, api.TInt)}, dead(23)
	isTaken(t, "a loop", function{e, 1, b, proofOf(t, 1, head, behind, last)}, 3, 0, 5, 7, 8, 11, 13, 14, 15, 17, 18, 19, 22)
	isFault(t, "without the head's entry", function{e, 1, b, proofOf(t, 1, behind, last)}, 19, api.ErrMissing)
	turned := bytes.Clone(b)
	copy(turned[13:], []byte{boolean, 1})
	turned[11], turned[12] = nop, nop
	isFault(t, "int, where the loop leaves a bool", function{e, 1, turned, proofOf(t, 1, head, behind, last)}, 19, api.ErrMisfit)
	isFault(t, "a byte too many", function{e, 1, b, append(proofOf(t, 1, head, behind, last), 0)}, 19, api.ErrMore)
}
