package opt_test

import (
	"bytes"
	"slices"
	"strings"
	"testing"

	"proviso/api"
	"proviso/code"
	"proviso/flow"
	"proviso/opt"
	"proviso/samples"
)

func TestP19_1Examples(t *testing.T) {
	becomes(t, "int 2; int 3; add; return", "int 5; return")
	becomes(t, "int 2147483647; int 1; add; return", "int -2147483648; return")
	becomes(t, "bool 1; unless a; int 1; tell; a: return", "int 1; tell; return")
	if f, why := opt.Func(api.Func{Code: []byte{19, 0, 4, 255, 22}}); show(f) != show(api.Func{}) || why != api.ErrOp {
		t.Error(f, why)
	}
	becomes(t, "a: jump b; b: jump a", "a: jump a")
}

func TestP19_1Threads(t *testing.T) {
	becomes(t, "load 0; unless a; tell; return; a: jump b; trap 1; b: jump c; trap 2; c: trap 3", "load 0; unless c; tell; return; c: trap 3")
	becomes(t, "a: load 0; unless b; int 1; tell; b: jump a", "a: load 0; unless a; int 1; tell; jump a")
	becomes(t, "load 0; unless b; tell; a: trap 1; b: jump a", "load 0; unless a; tell; a: trap 1")
	becomes(t, "load 0; unless a; tell; jump a; trap 9; a: jump b; trap 9; b: return", "load 0; unless b; tell; b: return")
	// what stands behind an unless is no jump's way
	stays(t, "load 0; unless a; tell; return; a: unless b; tell; b: return")
	stays(t, "a: load 0; tell; jump a")
}

func TestP19_1ThreadsThatComeBack(t *testing.T) {
	stays(t, "a: jump a")
	stays(t, "load 0; unless a; tell; return; a: jump a")
	becomes(t, "tell; a: jump a", "tell; a: jump a")
	becomes(t, "load 0; unless a; tell; return; a: jump b; b: jump c; c: jump a", "load 0; unless a; tell; return; a: jump a")
	// a way into a ring of two that are not behind one another
	stays(t, "load 0; unless a; load 0; unless b; return; a: jump c; b: jump a; c: jump b")
	stays(t, "load 0; unless a; load 0; unless b; return; b: jump c; a: jump b; c: jump a")
	becomes(t, "load 0; unless e; tell; e: jump a; b: jump c; a: jump b; c: jump a", "load 0; unless e; tell; e: jump a; b: jump c; a: jump b; c: jump a")
	// an unless that comes to itself along jumps comes there once
	becomes(t, "load 0; a: unless b; tell; return; b: jump a", "load 0; a: unless a; tell; return")
	stays(t, "load 0; a: unless a; return")
}

func TestP19_1Dead(t *testing.T) {
	becomes(t, "return; nop; int 1; jump a; a: trap 3", "return")
	becomes(t, "trap 1; return", "trap 1")
	becomes(t, "load 0; unless a; jump b; tell; a: tell; return; tell; b: return; jump a", "load 0; unless a; jump b; a: tell; return; b: return")
	becomes(t, "tell; a: tell; jump a; b: jump b; jump a", "tell; a: tell; jump a")
	// what leads there from where nothing comes holds nothing up
	becomes(t, "int 1; jump s; jump m; s: int 2; m: add; return", "int 3; return")
	becomes(t, "jump s; a: load 0; unless m; return; s: bool 0; m: not; return", "bool 1; return")
	// code that nothing comes to any more, once it is sure
	becomes(t, "bool 0; unless a; tell; tell; a: return", "return")
	becomes(t, "bool 1; unless a; return; a: tell; trap 1", "return")
}

func TestP19_1Nothing(t *testing.T) {
	becomes(t, "nop; return", "return")
	becomes(t, "nop; nop; nop; tell; nop; return", "tell; return")
	becomes(t, "load 0; unless a; tell; a: nop; nop; return", "load 0; unless a; tell; a: return")
	becomes(t, "tell; jump a; a: return", "tell; return")
	becomes(t, "jump a; a: jump b; b: jump c; c: return", "return")
	becomes(t, "load 0; unless a; a: return", "load 0; pop; return")
	becomes(t, "load 0; unless a; nop; a: return", "load 0; pop; return")
	becomes(t, "load 0; unless a; jump a; a: return", "load 0; pop; return")
	becomes(t, "load 0; unless a; jump b; a: nop; b: return", "load 0; pop; return")
	becomes(t, "load 0; unless a; load 0; unless a; a: return", "load 0; unless a; load 0; pop; a: return")
	becomes(t, "a: nop; load 0; unless a; jump a", "a: load 0; unless a; jump a")
	// the one right ahead is not the one right behind
	stays(t, "a: load 0; unless a; return")
	stays(t, "load 0; a: tell; jump a")
	becomes(t, "tell; jump a; return; a: nop; tell; return", "tell; tell; return")
}

func TestP19_1NothingTurnsAnUnlessIntoAPop(t *testing.T) {
	becomes(t, "bool 1; not; load 0; unless a; a: pop; return", "bool 0; load 0; pop; pop; return")
	becomes(t, "dup; unless a; a: return", "return")
	becomes(t, "int 1; unless a; a: return", "return")
	becomes(t, "bool 0; unless a; a: return", "return")
	becomes(t, "load 0; dup; unless a; nop; a: tell; return", "load 0; tell; return")
}

func TestP19_1Constants(t *testing.T) {
	becomes(t, "int 7; int 3; sub; return", "int 4; return")
	becomes(t, "int 7; int -3; mul; return", "int -21; return")
	becomes(t, "int 7; neg; return", "int -7; return")
	becomes(t, "bool 0; not; return", "bool 1; return")
	becomes(t, "bool 1; not; return", "bool 0; return")
	becomes(t, "int 3; int 7; less; return", "bool 1; return")
	becomes(t, "int 7; int 3; less; return", "bool 0; return")
	becomes(t, "int 7; int 7; less; return", "bool 0; return")
	becomes(t, "int 7; int 7; same; return", "bool 1; return")
	becomes(t, "int 1; int 0; same; return", "bool 0; return")
	becomes(t, "bool 0; bool 0; same; return", "bool 1; return")
	becomes(t, "bool 1; bool 0; same; return", "bool 0; return")
	becomes(t, "bool 1; bool 1; same; return", "bool 1; return")
	for _, text := range []string{"int 5; pop", "bool 0; pop", "bool 1; pop", "null; pop", "dup; pop", "not; not"} {
		becomes(t, text+"; return", "return")
		becomes(t, "load 0; "+text+"; tell; return", "load 0; tell; return")
	}
}

func TestP19_1ConstantsAreNoOthers(t *testing.T) {
	for _, text := range []string{
		"int 6; int 2; div", "int 6; int 2; rem", "int 6; int 0; div", "null; null; is", "null; dup", "int 1; dup; add", "load 0; pop", "int 1; int 2; swap", "int 1; not", "bool 1; neg",
		"int 1; bool 1; same", "bool 1; int 1; same", "bool 1; bool 0; less", "bool 1; bool 1; add", "null; not", "null; null; same", "not; neg", "neg; neg", "swap; swap", "store 0; load 0", "int 2; tell",
		"new 0; pop", "int 1; load 0; add", "load 0; int 0; add", "int 1; store 0", "swap; pop", "pop; dup", "int 3; make; pop", "int 1; int 2; is", "get 0 1; pop", "dup; not", "not; pop", "neg; pop",
	} {
		stays(t, text+"; return")
	}
}

func TestP19_1NumbersOf32BitsWrap(t *testing.T) {
	for _, a := range numbers() {
		for _, b := range numbers() {
			x, y := int32(a), int32(b)
			for op, want := range map[byte]int32{api.OpAdd: x + y, api.OpSub: x - y, api.OpMul: x * y} {
				got := optimised(t, laid([]api.Instr{{Op: api.OpInt, A: a}, {Op: api.OpInt, A: b}, {Op: op}, {Op: api.OpReturn}}))
				if in, why := code.Decode(got, 0); why != api.OK || in.Op != api.OpInt || in.A != int(want) || len(got) != 6 {
					t.Error(a, b, op, words(got))
				}
			}
		}
		got := optimised(t, laid([]api.Instr{{Op: api.OpInt, A: a}, {Op: api.OpNeg}, {Op: api.OpReturn}}))
		if in, _ := code.Decode(got, 0); in.A != int(-int32(a)) {
			t.Error(a, words(got))
		}
	}
	becomes(t, "int -2147483648; neg; return", "int -2147483648; return")
	becomes(t, "int -2147483648; int 1; sub; return", "int 2147483647; return")
	becomes(t, "int 65536; int 65536; mul; return", "int 0; return")
	becomes(t, "int -2147483648; int 2147483647; less; return", "bool 1; return")
}

func TestP19_1FromTheLeftToTheRight(t *testing.T) {
	becomes(t, "not; not; not; return", "not; return")
	becomes(t, "not; not; not; not; return", "return")
	becomes(t, "bool 1; not; not; return", "bool 1; return")
	becomes(t, "int 1; int 2; int 3; add; add; return", "int 6; return")
	becomes(t, "int 1; int 2; add; int 3; add; return", "int 6; return")
	becomes(t, "int 9; int 1; neg; neg; sub; return", "int 8; return")
	becomes(t, "int 1; int 2; pop; pop; return", "return")
	becomes(t, "dup; dup; pop; pop; return", "return")
	becomes(t, "dup; pop; pop; return", "pop; return")
	becomes(t, "null; dup; pop; pop; return", "return")
	becomes(t, "int 1; int 1; same; bool 0; same; not; pop; return", "return")
	becomes(t, "int 1; nop; int 2; nop; add; nop; neg; return", "int -3; return")
}

// Each of the rule's shapes with a jump to each of its instructions in turn, and to the one behind: what is led to in its midst stays.
func TestP19_1ConstantsThatAreLedTo(t *testing.T) {
	for _, x := range []struct{ text, want string }{
		{"int 4; int 2; add", "int 6"}, {"int 4; int 2; sub", "int 2"}, {"int 4; int 2; mul", "int 8"}, {"int 4; neg", "int -4"}, {"bool 1; not", "bool 0"},
		{"int 4; int 2; less", "bool 0"}, {"int 4; int 2; same", "bool 0"}, {"bool 1; bool 1; same", "bool 1"},
		{"int 4; pop", ""}, {"bool 0; pop", ""}, {"null; pop", ""}, {"dup; pop", ""}, {"not; not", ""},
	} {
		for _, jump := range []string{"load 0; unless a; tell; ", "load 0; unless b; jump a; b: tell; "} {
			shape := strings.Split(x.text, "; ")
			for i := 1; i < len(shape); i++ {
				led := slices.Clone(shape)
				led[i] = "a: " + led[i]
				stays(t, jump+strings.Join(led, "; ")+"; trap 1")
			}
			first, came := "a: "+x.text+"; trap 1", "a: trap 1"
			if x.want != "" {
				came = "a: " + x.want + "; trap 1"
			}
			becomes(t, jump+first, jump+came)
			behind, came := x.text+"; a: trap 1", "a: trap 1"
			if x.want != "" {
				came = x.want + "; " + came
			}
			becomes(t, jump+behind, jump+came)
		}
	}
	// a jump out of the midst is no jump into it; one from behind is
	stays(t, "load 0; int 1; a: int 2; add; unless a; return")
	becomes(t, "load 0; a: int 1; int 2; add; unless a; return", "load 0; a: int 3; unless a; return")
	becomes(t, "a: int 1; pop; load 0; unless a; return", "a: load 0; unless a; return")
}

func TestP19_1Sure(t *testing.T) {
	becomes(t, "bool 0; unless a; tell; a: trap 1", "trap 1")
	becomes(t, "bool 1; unless a; tell; a: trap 1", "tell; trap 1")
	becomes(t, "a: tell; bool 0; unless a; return", "a: tell; jump a")
	becomes(t, "a: tell; bool 1; unless a; return", "tell; return")
	becomes(t, "a: bool 0; unless a; return", "a: jump a")
	becomes(t, "a: bool 1; unless a; return", "return")
	// who led to the bool
	becomes(t, "load 0; unless a; tell; a: bool 0; unless b; tell; b: trap 1", "load 0; unless a; tell; a: trap 1")
	becomes(t, "load 0; unless a; tell; a: bool 1; unless b; tell; b: trap 1", "load 0; unless a; tell; a: tell; trap 1")
	// who leads to the unless
	stays(t, "load 0; load 0; unless a; tell; bool 0; a: unless b; tell; b: trap 1")
	stays(t, "load 0; load 0; unless a; tell; bool 1; a: unless b; tell; b: trap 1")
	stays(t, "bool 1; a: unless a; return")
	stays(t, "bool 0; a: unless a; return")
	stays(t, "int 1; unless a; tell; a: return")
	// a whole row
	becomes(t, "bool 1; unless a; bool 0; unless b; bool 1; unless a; a: tell; b: trap 1", "trap 1")
}

func TestP19_1RulesMakeRoomForOneAnother(t *testing.T) {
	becomes(t, "int 1; int 2; less; not; unless a; trap 2; a: trap 1", "trap 1")
	becomes(t, "int 2; int 1; less; not; unless a; trap 2; a: trap 1", "trap 2")
	becomes(t, "load 0; unless m; jump m; m: int 1; int 2; add; return", "load 0; pop; int 3; return")
	becomes(t, "int 1; jump m; m: int 2; add; return", "int 3; return")
	becomes(t, "int 1; load 0; unless m; m: int 2; add; return", "int 1; load 0; pop; int 2; add; return")
	becomes(t, "int 1; bool 0; unless m; tell; m: neg; return", "int -1; return")
	becomes(t, "a: bool 1; unless b; jump a; b: return", "a: jump a")
	becomes(t, "bool 0; unless a; b: tell; jump b; a: bool 1; unless b; jump c; c: jump d; d: return", "return")
	becomes(t, "load 0; unless a; jump b; a: jump b; b: return", "load 0; pop; return")
	becomes(t, "bool 1; bool 1; same; unless x; dup; not; not; pop; nop; x: jump y; y: return", "return")
}

// Rules look at the instructions as they stood ahead of them, in their order: else these would come to something else.
func TestP19_1InTheOrderOfARound(t *testing.T) {
	// the threads are drawn before the ring loses a jump
	becomes(t, "load 0; unless a; tell; a: jump b; b: jump a", "load 0; unless a; tell; a: jump a")
	becomes(t, "load 0; unless x; tell; x: jump y; y: nop; jump z; z: jump x", "load 0; unless x; tell; x: jump x")
	becomes(t, "load 0; a: unless b; b: jump a", "load 0; a: unless a; jump a")
}

func TestP19_1CodeThatMayNotBe(t *testing.T) {
	long := append(make([]byte, api.MaxCode), api.OpReturn)
	for _, x := range []struct {
		about string
		code  []byte
		why   api.Errno
	}{
		{"nil", nil, api.ErrOff}, {"empty", []byte{}, api.ErrOff}, {"it goes on", []byte{0}, api.ErrOff}, {"it goes on with an unless", []byte{20, 0, 0}, api.ErrOff},
		{"no instruction", []byte{34}, api.ErrOp}, {"none that is come to", []byte{22, 255}, api.ErrOp}, {"short", []byte{22, 1, 0, 0}, api.ErrShort}, {"a bool", []byte{2, 2, 22}, api.ErrRange},
		{"into the midst", []byte{19, 0, 1}, api.ErrTarget}, {"behind the end", []byte{19, 0, 3}, api.ErrTarget}, {"far behind", []byte{19, 255, 255}, api.ErrTarget}, {"from where nothing comes", []byte{22, 20, 0, 2, 22}, api.ErrTarget},
		{"too long", long, api.ErrLong}, {"too long, and none", bytes.Repeat([]byte{255}, 5000), api.ErrLong},
		{"a target ahead of the end", []byte{19, 0, 9, 0}, api.ErrTarget}, {"an instruction ahead of a target", []byte{19, 0, 9, 99}, api.ErrOp},
	} {
		f, why := opt.Func(api.Func{Name: "f", Locals: 3, Sig: api.Sig{Params: []api.Type{1}, Result: 1}, Code: x.code})
		if why != x.why || show(f) != show(api.Func{}) {
			t.Error(x.about, f, why)
		}
	}
}

func TestP19_1AtTheLimit(t *testing.T) {
	nops := append(make([]byte, api.MaxCode-1), api.OpReturn)
	if got := optimised(t, nops); !bytes.Equal(got, []byte{api.OpReturn}) {
		t.Error(words(got))
	}
	kept := append(bytes.Repeat([]byte{api.OpTell}, api.MaxCode-6), api.OpUnless, 15, 255, api.OpTell, api.OpTell, api.OpReturn)
	if got := optimised(t, kept); !bytes.Equal(got, kept) {
		t.Error(words(got))
	}
	ring := bytes.Repeat([]byte{api.OpLoad, 0}, 2045)
	ring = append(ring, api.OpUnless, 0, 0, api.OpJump, 0, 0)
	if got := optimised(t, ring); len(ring) != api.MaxCode || !bytes.Equal(got, ring) {
		t.Error(words(got))
	}
}

// So many rounds as can be: each takes out a pair in the midst.
func TestP19_1ManyRounds(t *testing.T) {
	b := append(bytes.Repeat([]byte{api.OpNull}, 2047), bytes.Repeat([]byte{api.OpPop}, 2047)...)
	f, why := opt.Func(api.Func{Code: append(b, api.OpReturn)})
	if why != api.OK || !bytes.Equal(f.Code, []byte{api.OpReturn}) {
		t.Error(words(f.Code), why)
	}
}

// A long way along jumps, one that ends and one that does not.
func TestP19_1LongWays(t *testing.T) {
	for _, ends := range []bool{true, false} {
		n := 1365
		var l []api.Instr
		for i := range n - 1 {
			l = append(l, api.Instr{Op: api.OpJump, A: (i + 7) % (n - 1)})
		}
		l = append(l, api.Instr{Op: api.OpTrap, A: 4})
		if ends {
			l[(n-1)/2].A = n - 1
		}
		got := optimised(t, laid(l))
		if ends != bytes.Equal(got, []byte{api.OpTrap, 4}) || !ends && len(got) != 3*(n-1) {
			t.Error(ends, len(got))
		}
	}
}

func TestP19_1TheRestStays(t *testing.T) {
	f := api.Func{Name: "any name", Sig: api.Sig{Params: []api.Type{1, 99, 0}, Result: 200}, Locals: -7, Code: assembled(t, "nop; load 200; call 255; get 7 9; return")}
	got, why := opt.Func(f)
	f.Code = assembled(t, "load 200; call 255; get 7 9; return")
	if why != api.OK || show(got) != show(f) {
		t.Error(got, why)
	}
}

// All code of up to four instructions out of some.
func TestP19_1AllOfFew(t *testing.T) {
	came := 0
	for n := 1; n <= 4; n++ {
		var all []api.Instr
		for _, op := range []byte{api.OpNop, api.OpInt, api.OpBool, api.OpPop, api.OpDup, api.OpNot, api.OpAdd, api.OpReturn} {
			all = append(all, api.Instr{Op: op})
		}
		all = append(all, api.Instr{Op: api.OpBool, A: 1})
		for to := range n {
			all = append(all, api.Instr{Op: api.OpJump, A: to}, api.Instr{Op: api.OpUnless, A: to})
		}
		var l []api.Instr
		var each func()
		each = func() {
			if len(l) == n {
				if code.Ends(l[n-1].Op) {
					optimised(t, laid(l))
					came++
				}
				return
			}
			for _, in := range all {
				l = append(l, in)
				each()
				l = l[:len(l)-1]
			}
		}
		each()
	}
	if came < 20000 {
		t.Error("few", came)
	}
}

func TestP19_1AsTheDiceFall(t *testing.T) {
	d, less, same := dice(1), 0, 0
	for i := range 40000 {
		b := loose(&d, 1+i%23)
		if len(optimised(t, b)) < len(b) {
			less++
		} else {
			same++
		}
	}
	for range 100 {
		optimised(t, loose(&d, 100+d.Below(900)))
	}
	if less < 20000 || same < 1000 {
		t.Error("few", less, same)
	}
}

func TestP19_1AnyBytes(t *testing.T) {
	d, taken := dice(2), 0
	for range 60000 {
		b := samples.Anything(&d, 1+d.Below(15))
		if d.Below(3) == 0 {
			b = samples.Turned(&d, loose(&d, 1+d.Below(9)))
		}
		_, want := flow.Check(b)
		f, why := opt.Func(api.Func{Name: "f", Code: b})
		if why != want || why != api.OK && show(f) != show(api.Func{}) {
			t.Fatal(b, f, why, want)
		}
		if why == api.OK {
			optimised(t, b)
			taken++
		}
	}
	if taken < 1000 {
		t.Error("few", taken)
	}
}
