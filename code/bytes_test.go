package code_test

import (
	"bytes"
	"math"
	"slices"
	"testing"

	"proviso/api"
	"proviso/code"
)

func TestP4_2Encode(t *testing.T) {
	for _, r := range rows() {
		for _, a := range numbers() {
			for _, b := range numbers() {
				in := api.Instr{Op: r.op, A: a, B: b}
				_, leastA, mostA := bounds(r.operand(0))
				_, leastB, mostB := bounds(r.operand(1))
				got, e := code.Encode(in)
				if a < leastA || a > mostA || b < leastB || b > mostB {
					if e != api.ErrRange || len(got) != 0 {
						t.Fatal(r.word, a, b, got, e)
					}
					continue
				}
				if want := r.bytesOf(in); e != api.OK || !bytes.Equal(got, want) {
					t.Fatal(r.word, a, b, got, want, e)
				}
			}
		}
	}
}

func TestP4_2EncodeOfAllOperandsOfAByte(t *testing.T) {
	for _, r := range rows() {
		for a := -300; a <= 600; a++ {
			_, least, most := bounds(r.operand(0))
			got, e := code.Encode(api.Instr{Op: r.op, A: a})
			if good := a >= least && a <= most; good != (e == api.OK) || !good && e != api.ErrRange {
				t.Fatal(r.word, a, got, e)
			}
		}
	}
}

func TestP4_2EncodeOfNoInstruction(t *testing.T) {
	for op := 34; op < 256; op++ {
		for _, n := range []int{0, 1, -1, math.MinInt, math.MaxInt} {
			if b, e := code.Encode(api.Instr{Op: byte(op), A: n, B: n}); e != api.ErrOp || len(b) != 0 {
				t.Error(op, n, b, e)
			}
		}
	}
}

func TestP4_2AtPlaysNoPart(t *testing.T) {
	d := dice(3)
	for _, r := range rows() {
		in := r.instr(&d)
		want := r.bytesOf(in)
		for _, in.At = range []int{-1, 4096, 1 << 20, math.MinInt, math.MaxInt} {
			if b, e := code.Encode(in); e != api.OK || !bytes.Equal(b, want) {
				t.Error(in, b, e)
			}
		}
		l := []api.Instr{in, in}
		if b, n, e := code.All(l); e != api.OK || n != 0 || !bytes.Equal(b, slices.Repeat(want, 2)) {
			t.Error("All", in, b, n, e)
		}
	}
}

// isInstr fails the test, if Decode answers another thing.
func isInstr(t *testing.T, b []byte, at int, want api.Instr, err api.Errno) {
	t.Helper()
	if in, e := code.Decode(b, at); in != want || e != err {
		t.Errorf("Decode(% x, %d): %v, %v; want %v, %v", b, at, in, e, want, err)
	}
}

func TestP4_3DecodeByTheTable(t *testing.T) {
	d := dice(5)
	for _, r := range rows() {
		for range 200 {
			in := r.instr(&d)
			isInstr(t, r.bytesOf(in), 0, in, api.OK)
		}
	}
}

func TestP4_3DecodeOutside(t *testing.T) {
	for _, b := range [][]byte{nil, {}, {0}, {34}, {1, 2}, make([]byte, 5000)} {
		for _, at := range []int{-1, -2, len(b) + 1, len(b) + 2, math.MinInt, math.MaxInt} {
			isInstr(t, b, at, api.Instr{}, api.ErrArg)
		}
		isInstr(t, b, len(b), api.Instr{}, api.ErrShort)
	}
	isInstr(t, make([]byte, 5000), 4999, api.Instr{At: 4999}, api.OK)
	behind := []byte{0, 0, 0, 22}
	isInstr(t, behind[:2], 2, api.Instr{}, api.ErrShort)
	isInstr(t, behind[:2], 3, api.Instr{}, api.ErrArg)
}

func TestP4_3DecodeOfNoInstruction(t *testing.T) {
	for op := 34; op < 256; op++ {
		for size := range 6 {
			b := append([]byte{byte(op)}, make([]byte, size)...)
			isInstr(t, b, 0, api.Instr{}, api.ErrOp)
			isInstr(t, append([]byte{0, 0}, b...), 2, api.Instr{}, api.ErrOp)
		}
	}
}

func TestP4_3DecodeOfTooFewBytes(t *testing.T) {
	for _, r := range rows() {
		whole := slices.Repeat([]byte{255}, r.size())
		whole[0] = r.op
		for size := 1; size < r.size(); size++ {
			isInstr(t, whole[:size], 0, api.Instr{}, api.ErrShort) // the rest stands in the room behind
			isInstr(t, slices.Clone(whole[:size]), 0, api.Instr{}, api.ErrShort)
			isInstr(t, append([]byte{0, 0, 0, 0, 0}, whole[:size]...), 5, api.Instr{}, api.ErrShort)
		}
	}
}

func TestP4_3DecodeOfBools(t *testing.T) {
	for x := range 256 {
		b := []byte{0, api.OpBool, byte(x), 0}
		if x < 2 {
			isInstr(t, b, 1, api.Instr{At: 1, Op: api.OpBool, A: x}, api.OK)
		} else {
			isInstr(t, b, 1, api.Instr{}, api.ErrRange)
		}
	}
}

func TestP4_3DecodeOfInts(t *testing.T) {
	for _, n := range []int{0, 1, -1, 255, 256, -256, 0x01020304, 0x7fffffff, -0x80000000, -0x7fffffff, 0x7f000000, -0x01020304} {
		b := []byte{api.OpInt, byte(n >> 24), byte(n >> 16), byte(n >> 8), byte(n)}
		isInstr(t, b, 0, api.Instr{Op: api.OpInt, A: n}, api.OK)
	}
	isInstr(t, []byte{api.OpJump, 0xff, 0xfe}, 0, api.Instr{Op: api.OpJump, A: 65534}, api.OK)
	isInstr(t, []byte{api.OpLoad, 0x80}, 0, api.Instr{Op: api.OpLoad, A: 128}, api.OK)
	isInstr(t, []byte{api.OpPut, 0xff, 0x80}, 0, api.Instr{Op: api.OpPut, A: 255, B: 128}, api.OK)
}

// isAll fails the test, if All answers another thing.
func isAll(t *testing.T, what string, l []api.Instr, want []byte, place int, err api.Errno) {
	t.Helper()
	if b, n, e := code.All(l); !bytes.Equal(b, want) || n != place || e != err {
		t.Errorf("%s: %d bytes, %d, %v; want %d, %d, %v", what, len(b), n, e, len(want), place, err)
	}
}

func TestP4_4All(t *testing.T) {
	isAll(t, "nil", nil, nil, 0, api.OK)
	isAll(t, "none", []api.Instr{}, nil, 0, api.OK)
	d := dice(7)
	for range 300 {
		var l []api.Instr
		var want []byte
		for range d.below(60) {
			r := rows()[d.below(int(api.NumOps))]
			l = append(l, r.instr(&d))
			want = append(want, r.bytesOf(l[len(l)-1])...)
		}
		isAll(t, "thrown", l, want, 0, api.OK)
	}
}

func TestP4_4AllRefuses(t *testing.T) {
	good := api.Instr{Op: api.OpJump, A: 7}
	for _, x := range []struct {
		in   api.Instr
		want api.Errno
	}{{api.Instr{Op: 34}, api.ErrOp}, {api.Instr{Op: 255, A: -1}, api.ErrOp}, {api.Instr{Op: api.OpBool, A: 2}, api.ErrRange}, {api.Instr{Op: api.OpPop, B: 1}, api.ErrRange}} {
		for ahead := range 5 {
			l := append(slices.Repeat([]api.Instr{good}, ahead), x.in, good, api.Instr{Op: 99}, api.Instr{Op: api.OpNop, A: 9})
			isAll(t, "a fault", l, nil, ahead, x.want)
		}
	}
}

func TestP4_4AllUpToMaxCode(t *testing.T) {
	nops := make([]api.Instr, 5000)
	isAll(t, "4095", nops[:4095], make([]byte, 4095), 0, api.OK)
	isAll(t, "4096", nops[:4096], make([]byte, 4096), 0, api.OK)
	isAll(t, "4097", nops[:4097], nil, 4096, api.ErrLong)
	isAll(t, "5000", nops, nil, 4096, api.ErrLong)
	for _, r := range rows() {
		one := api.Instr{Op: r.op}
		fit := slices.Repeat([]api.Instr{one}, 4096/r.size())
		want := slices.Repeat(r.bytesOf(one), len(fit))
		isAll(t, r.word, fit, want, 0, api.OK)
		isAll(t, r.word, append(slices.Clone(fit), one), nil, len(fit), api.ErrLong)
		for room := range r.size() {
			isAll(t, r.word+" without room", append(slices.Clone(nops[:4096-room]), one), nil, 4096-room, api.ErrLong)
		}
		isAll(t, r.word+" with just its room", append(slices.Clone(nops[:4096-r.size()]), one), append(make([]byte, 4096-r.size()), r.bytesOf(one)...), 0, api.OK)
	}
}

func TestP4_4WhicheverComesFirst(t *testing.T) {
	bad, wrong := api.Instr{Op: 34}, api.Instr{Op: api.OpNop, A: 1}
	l := append(make([]api.Instr, 4096), api.Instr{}, bad)
	isAll(t, "too long ahead of a fault", l, nil, 4096, api.ErrLong)
	l[4096] = bad
	isAll(t, "of one instruction Encode's", l, nil, 4096, api.ErrOp)
	l[4096] = wrong
	isAll(t, "of one instruction Encode's range", l, nil, 4096, api.ErrRange)
	l[4095] = bad
	isAll(t, "a fault ahead of too long", l, nil, 4095, api.ErrOp)
	l[0] = wrong
	isAll(t, "the first of all", l, nil, 0, api.ErrRange)
}

// isPatched fails the test, if Patch answers another thing, or b changes.
func isPatched(t *testing.T, b []byte, at, target int, want []byte, err api.Errno) {
	t.Helper()
	was := slices.Clone(b)
	if got, e := code.Patch(b, at, target); !bytes.Equal(got, want) || e != err {
		t.Errorf("Patch(%d bytes, %d, %d): % .20x, %v; want % .20x, %v", len(b), at, target, got, e, want, err)
	}
	if !bytes.Equal(b, was) {
		t.Error("what was handed in was changed", at, target)
	}
}

func TestP4_5Patch(t *testing.T) {
	for _, op := range []byte{api.OpJump, api.OpUnless} {
		for _, target := range []int{0, 1, 255, 256, 4095, 4096, 65534, 65535} {
			high, low := byte(target/256), byte(target%256)
			isPatched(t, []byte{op, 9, 9}, 0, target, []byte{op, high, low}, api.OK)
			isPatched(t, []byte{1, 2, op, 9, 9, 77, 78}, 2, target, []byte{1, 2, op, high, low, 77, 78}, api.OK)
			whole := make([]byte, api.MaxCode)
			whole[4093] = op
			isPatched(t, whole, 4093, target, append(slices.Clone(whole[:4094]), high, low), api.OK)
		}
		for _, target := range []int{-1, -65536, 65536, 65537, 1 << 32, math.MinInt, math.MaxInt} {
			isPatched(t, []byte{0, op, 0, 0}, 1, target, nil, api.ErrRange)
		}
	}
}

func TestP4_5PatchRefuses(t *testing.T) {
	long := make([]byte, api.MaxCode+1)
	long[0] = api.OpJump
	isPatched(t, long, 0, 0, nil, api.ErrLong)
	isPatched(t, long, -1, -1, nil, api.ErrLong)
	isPatched(t, long[:api.MaxCode], 0, 0, long[:api.MaxCode], api.OK)
	b := []byte{api.OpJump, 0, 0, 34, api.OpBool, 2, api.OpUnless, 1}
	for _, target := range []int{0, -1, 65536} {
		for _, at := range []int{-1, 9, math.MinInt, math.MaxInt} {
			isPatched(t, b, at, target, nil, api.ErrArg)
		}
		isPatched(t, b, 8, target, nil, api.ErrShort)
		isPatched(t, b, 3, target, nil, api.ErrOp)
		isPatched(t, b, 6, target, nil, api.ErrShort)
		isPatched(t, b, 4, target, nil, api.ErrRange)
		isPatched(t, nil, 0, target, nil, api.ErrShort)
		for _, r := range rows() {
			if r.word != "jump" && r.word != "unless" {
				isPatched(t, append([]byte{r.op}, 0, 0, 0, 0), 0, target, nil, api.ErrArg)
			}
		}
	}
}

func TestP4_6ThereAndBack(t *testing.T) {
	d := dice(11)
	for _, r := range rows() {
		for range 300 {
			in := r.instr(&d)
			b, e := code.Encode(in)
			if e != api.OK {
				t.Fatal(in, e)
			}
			in.At = d.below(20)
			around := make([]byte, in.At, 64)
			around = append(append(around, b...), make([]byte, d.below(20))...)
			for i := range around {
				if i < in.At || i >= in.At+len(b) {
					around[i] = byte(d.below(256))
				}
			}
			isInstr(t, around, in.At, in, api.OK)
		}
	}
}

func TestP4_7OneForm(t *testing.T) {
	d, taken := dice(13), 0
	for range 50000 {
		b := make([]byte, d.below(9))
		for i := range b {
			b[i] = byte(d.below(256) >> d.below(8))
		}
		at := d.below(len(b) + 1)
		in, e := code.Decode(b, at)
		if e != api.OK {
			continue
		}
		taken++
		back, e := code.Encode(in)
		if size := code.Size(in.Op); e != api.OK || in.At != at || len(back) != size || !bytes.Equal(back, b[at:at+size]) {
			t.Fatal(b, at, in, back, e)
		}
	}
	if taken < 10000 {
		t.Fatal("hardly anything was taken", taken)
	}
}

func TestP4_9NoBeginning(t *testing.T) {
	d := dice(17)
	for _, r := range rows() {
		for _, q := range rows() {
			for range 20 {
				in, other := r.instr(&d), q.instr(&d)
				a, _ := code.Encode(in)
				b, _ := code.Encode(other)
				if in != other && bytes.HasPrefix(b, a) {
					t.Fatal(in, other)
				}
			}
		}
	}
}

// filled is all of a list's memory, its room included, written over.
func filled(b []byte) {
	b = b[:cap(b)]
	for i := range b {
		b[i] = '?'
	}
}

func TestAnswersAreNewMemory(t *testing.T) {
	in := api.Instr{Op: api.OpJump, A: 258}
	one, _ := code.Encode(in)
	two, _ := code.Encode(in)
	filled(one)
	if !bytes.Equal(two, []byte{19, 1, 2}) {
		t.Error("Encode", two)
	}
	l := append(make([]api.Instr, 0, 9), in, in)
	first, _, _ := code.All(l)
	second, _, _ := code.All(l)
	filled(first)
	if !bytes.Equal(second, []byte{19, 1, 2, 19, 1, 2}) || l[0] != in || l[1] != in || l[:9][2] != (api.Instr{}) {
		t.Error("All", second, l)
	}
	room := []byte{19, 0, 0, 5, 6, 7}
	p, _ := code.Patch(room[:3], 0, 258)
	q, _ := code.Patch(room[:3], 0, 258)
	filled(p)
	if !bytes.Equal(room, []byte{19, 0, 0, 5, 6, 7}) || !bytes.Equal(q, []byte{19, 1, 2}) {
		t.Error("Patch", room, q)
	}
	room[0] = 0
	if q[0] != 19 {
		t.Error("Patch keeps what was handed in")
	}
	code.Decode(room[:3], 1)
	if !bytes.Equal(room, []byte{0, 0, 0, 5, 6, 7}) {
		t.Error("Decode", room)
	}
}

func TestAllEndsOfAllArguments(t *testing.T) {
	d, all := dice(19), numbers()
	for range 50000 {
		b := make([]byte, d.below(12))
		for i := range b {
			b[i] = byte(d.below(256))
		}
		at, target := all[d.below(len(all))], all[d.below(len(all))]
		if d.below(2) == 0 {
			at = d.below(14) - 1
		}
		in := api.Instr{At: at, Op: byte(d.below(256)), A: target, B: at}
		code.Decode(b, at)
		code.Patch(b, at, target)
		code.Encode(in)
		code.All([]api.Instr{in, in})
	}
}

func TestExamplesOfChapter4(t *testing.T) {
	for _, x := range []struct {
		in   api.Instr
		want []byte
		e    api.Errno
	}{
		{api.Instr{Op: api.OpInt, A: -2}, []byte{0x01, 0xff, 0xff, 0xff, 0xfe}, api.OK},
		{api.Instr{Op: api.OpJump, A: 300}, []byte{0x13, 0x01, 0x2c}, api.OK},
		{api.Instr{Op: api.OpGet, A: 1, B: 2}, []byte{0x18, 0x01, 0x02}, api.OK},
		{api.Instr{Op: api.OpBool, A: 2}, nil, api.ErrRange},
		{api.Instr{Op: api.OpLoad, A: 256}, nil, api.ErrRange},
		{api.Instr{Op: api.OpPop, A: 1}, nil, api.ErrRange},
		{api.Instr{Op: 34}, nil, api.ErrOp},
	} {
		if b, e := code.Encode(x.in); !bytes.Equal(b, x.want) || e != x.e {
			t.Error(x.in, b, e)
		}
	}
	isInstr(t, []byte{2, 1}, 0, api.Instr{Op: api.OpBool, A: 1}, api.OK)
	isInstr(t, []byte{2, 2}, 0, api.Instr{}, api.ErrRange)
	isInstr(t, []byte{0x13, 1}, 0, api.Instr{}, api.ErrShort)
	isInstr(t, []byte{0x22}, 0, api.Instr{}, api.ErrOp)
	if code.Size(api.OpInt) != 5 || code.Size(api.OpPut) != 3 || code.Size(200) != 0 || code.Name(18) != "is" {
		t.Error("Size, Name")
	}
	if op, ok := code.Op("jump"); op != 19 || !ok || !code.Ends(api.OpTrap) || code.Ends(api.OpUnless) {
		t.Error("Op, Ends", op, ok)
	}
	b := []byte{0x00, 0x13, 0x00, 0x00}
	isPatched(t, b, 1, 7, []byte{0x00, 0x13, 0x00, 0x07}, api.OK)
	isPatched(t, b, 0, 7, nil, api.ErrArg)
	isPatched(t, b, 1, 65536, nil, api.ErrRange)
}
