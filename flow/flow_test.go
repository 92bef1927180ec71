package flow_test

import (
	"slices"
	"testing"

	"proviso/api"
	"proviso/code"
	"proviso/flow"
)

func isScan(t *testing.T, b []byte, want []api.Instr, at int, err api.Errno) {
	t.Helper()
	if l, n, e := flow.Scan(b); !slices.Equal(l, want) || n != at || e != err {
		t.Errorf("Scan(% .20x): %d instructions, %d, %v; want %d, %d, %v", b, len(l), n, e, len(want), at, err)
	}
}

func isCheck(t *testing.T, b []byte, at int, err api.Errno) {
	t.Helper()
	if n, e := flow.Check(b); n != at || e != err {
		t.Errorf("Check(% .20x): %d, %v; want %d, %v", b, n, e, at, err)
	}
}

func isPlaces(t *testing.T, what string, got, want []int) {
	t.Helper()
	if !slices.Equal(got, want) {
		t.Errorf("%s: %v; want %v", what, got, want)
	}
}

func TestP5_1Scan(t *testing.T) {
	isScan(t, nil, nil, 0, api.OK)
	isScan(t, []byte{}, nil, 0, api.OK)
	for op := range api.NumOps {
		l := laid(api.Instr{Op: op}, api.Instr{Op: op}, api.Instr{})
		isScan(t, bytesOf(t, l), l, 0, api.OK)
	}
	d := dice(1)
	for range 500 {
		l := some(&d, d.below(80))
		isScan(t, bytesOf(t, l), l, 0, api.OK)
	}
}

func TestP5_1ScanRefusesWhatDecodeDoes(t *testing.T) {
	d := dice(2)
	for ahead := range 30 {
		b := bytesOf(t, some(&d, ahead))
		for _, x := range []struct {
			b []byte
			e api.Errno
		}{
			{[]byte{34, 99, 2, 2}, api.ErrOp}, {[]byte{255}, api.ErrOp}, {[]byte{api.OpBool, 2, 34}, api.ErrRange},
			{[]byte{api.OpBool}, api.ErrShort}, {[]byte{api.OpJump, 0}, api.ErrShort}, {[]byte{api.OpInt, 0, 0, 0}, api.ErrShort}, {[]byte{api.OpPut}, api.ErrShort},
		} {
			isScan(t, append(slices.Clone(b), x.b...), nil, len(b), x.e)
			isCheck(t, append(slices.Clone(b), x.b...), len(b), x.e)
		}
	}
}

func TestP5_1ScanUpToMaxCode(t *testing.T) {
	for _, op := range []byte{api.OpNop, api.OpReturn} {
		b := slices.Repeat([]byte{op}, 4098)
		for _, n := range []int{4095, 4096} {
			isScan(t, b[:n], laid(slices.Repeat([]api.Instr{{Op: op}}, n)...), 0, api.OK)
		}
		for _, n := range []int{4097, 4098} {
			isScan(t, b[:n], nil, 0, api.ErrLong)
			isCheck(t, b[:n], 0, api.ErrLong)
		}
	}
	isScan(t, slices.Repeat([]byte{34}, 4097), nil, 0, api.ErrLong)
	isScan(t, append(make([]byte, 4096), 34), nil, 0, api.ErrLong)
	isScan(t, append(make([]byte, 4095), 34), nil, 4095, api.ErrOp)
	isScan(t, append(make([]byte, 4094), api.OpJump, 0), nil, 4094, api.ErrShort)
	isScan(t, slices.Repeat([]byte{255}, 1<<22), nil, 0, api.ErrLong)
}

func TestP5_1Check(t *testing.T) {
	isCheck(t, nil, 0, api.ErrOff)
	isCheck(t, []byte{}, 0, api.ErrOff)
	for op := range api.NumOps {
		at, e := 1, api.ErrOff
		if op == api.OpJump || op == api.OpReturn || op == api.OpTrap {
			at, e = 0, api.OK
		}
		isCheck(t, bytesOf(t, laid(api.Instr{}, api.Instr{Op: op})), at, e)
		isCheck(t, bytesOf(t, laid(api.Instr{}, api.Instr{Op: op}, api.Instr{Op: api.OpReturn})), 0, api.OK)
	}
	whole := make([]byte, api.MaxCode)
	isCheck(t, whole, 4095, api.ErrOff)
	whole[4095] = api.OpReturn
	isCheck(t, whole, 0, api.OK)
}

func TestP5_1CheckTargets(t *testing.T) {
	for target := range 40 {
		for _, op := range []byte{api.OpJump, api.OpUnless} {
			l := laid(api.Instr{Op: api.OpInt, A: 77}, api.Instr{Op: op, A: target}, api.Instr{Op: api.OpLoad, A: 99}, api.Instr{Op: api.OpReturn})
			at, e := 5, api.ErrTarget
			if slices.Contains([]int{0, 5, 8, 10}, target) {
				at, e = 0, api.OK
			}
			isCheck(t, bytesOf(t, l), at, e)
		}
	}
	isCheck(t, []byte{19, 255, 255}, 0, api.ErrTarget)
	isCheck(t, []byte{19, 0, 3, 19, 0, 4}, 3, api.ErrTarget)
	isCheck(t, []byte{19, 0, 1, 19, 0, 4, 34}, 6, api.ErrOp)
	isCheck(t, []byte{19, 0, 1, 19, 0, 4, 0}, 0, api.ErrTarget)
	isCheck(t, []byte{20, 0, 0}, 0, api.ErrOff)
	isCheck(t, []byte{0, 20, 0, 4}, 1, api.ErrTarget)
}

func TestP5_1CheckAsItIsTold(t *testing.T) {
	d, fine := dice(3), 0
	for range 2000 {
		l := some(&d, 1+d.below(6))
		at, e := 0, api.OK
		if last := l[len(l)-1]; !code.Ends(last.Op) {
			at, e = last.At, api.ErrOff
		}
		for _, in := range slices.Backward(l) {
			if _, is := firstAt(l, in.A); code.Jumps(in.Op) && !is {
				at, e = in.At, api.ErrTarget
			}
		}
		if e == api.OK {
			fine++
		}
		isCheck(t, bytesOf(t, l), at, e)
	}
	if fine < 50 {
		t.Fatal("hardly any code was fine", fine)
	}
}

func TestP5_2Next(t *testing.T) {
	for op := range 256 {
		for _, at := range huge() {
			for _, a := range append(huge(), at, at+1, at+2, at+3, at+4) {
				in := api.Instr{At: at, Op: byte(op), A: a, B: 5}
				if n, want := flow.Next(in), nextTold(in); !slices.Equal(n, want) {
					t.Fatal(in, n, want)
				}
			}
		}
	}
}

func TestP5_2NextRisesEachOnce(t *testing.T) {
	for _, x := range []struct {
		in   api.Instr
		want []int
	}{
		{api.Instr{At: 7, Op: api.OpNop}, []int{8}},
		{api.Instr{At: 7, Op: api.OpInt, A: 3}, []int{12}},
		{api.Instr{At: 7, Op: api.OpReturn, A: 3}, nil},
		{api.Instr{At: 7, Op: api.OpTrap, A: 3}, nil},
		{api.Instr{At: 7, Op: api.OpJump, A: 3}, []int{3}},
		{api.Instr{At: 7, Op: api.OpJump, A: 7}, []int{7}},
		{api.Instr{At: 7, Op: api.OpUnless, A: 3}, []int{3, 10}},
		{api.Instr{At: 7, Op: api.OpUnless, A: 10}, []int{10}},
		{api.Instr{At: 7, Op: api.OpUnless, A: 11}, []int{10, 11}},
		{api.Instr{At: 7, Op: api.OpUnless, A: -9}, []int{-9, 10}},
		{api.Instr{At: 4095, Op: api.OpInt}, []int{4100}},
		{api.Instr{At: 4096, Op: api.OpUnless}, nil},
		{api.Instr{At: -1, Op: api.OpUnless}, nil},
		{api.Instr{At: 0, Op: 34, A: 3}, nil},
	} {
		isPlaces(t, code.Name(x.in.Op), flow.Next(x.in), x.want)
	}
}

func TestP5_3TargetsAndBehind(t *testing.T) {
	isPlaces(t, "none", flow.Targets(nil), nil)
	isPlaces(t, "none", flow.Behind([]api.Instr{}), nil)
	d := dice(4)
	for range 1500 {
		l := strange(&d, d.below(30))
		var to, behind []int
		for _, in := range l {
			if in.Op == api.OpJump || in.Op == api.OpUnless {
				to = append(to, in.A)
			}
			if (in.Op == api.OpJump || in.Op == api.OpReturn || in.Op == api.OpTrap) && in.At >= 0 && in.At <= 4095 {
				behind = append(behind, in.At+code.Size(in.Op))
			}
		}
		isPlaces(t, "Targets", flow.Targets(l), once(to))
		isPlaces(t, "Behind", flow.Behind(l), once(behind))
	}
}

func TestP5_3EdgesOfAddresses(t *testing.T) {
	for _, at := range huge() {
		for _, op := range []byte{api.OpJump, api.OpReturn, api.OpTrap, api.OpUnless, api.OpNop, 34, 255} {
			l := []api.Instr{{At: at, Op: op, A: at}}
			var to, behind []int
			if op == api.OpJump || op == api.OpUnless {
				to = []int{at}
			}
			if size := map[byte]int{api.OpJump: 3, api.OpReturn: 1, api.OpTrap: 2}[op]; size > 0 && at >= 0 && at < 4096 {
				behind = []int{at + size}
			}
			isPlaces(t, "Targets", flow.Targets(l), to)
			isPlaces(t, "Behind", flow.Behind(l), behind)
		}
	}
}

func TestP5_4Reach(t *testing.T) {
	isPlaces(t, "nothing", flow.Reach(nil, 0), nil)
	d := dice(5)
	for range 1500 {
		l := some(&d, 1+d.below(30))
		from := d.below(40)
		isPlaces(t, "code", flow.Reach(l, from), reachTold(l, from))
		l = strange(&d, 1+d.below(30))
		from = l[d.below(len(l))].At
		isPlaces(t, "strange", flow.Reach(l, from), reachTold(l, from))
		isPlaces(t, "none there", flow.Reach(l, 1<<40), nil)
	}
}

func TestP5_4TheFirstOfOneAddress(t *testing.T) {
	l := []api.Instr{{At: 5, Op: api.OpReturn}, {At: 0, Op: api.OpJump, A: 5}, {At: 0, Op: api.OpNop}, {At: 1, Op: api.OpReturn}, {At: 5, Op: api.OpJump, A: 1}}
	isPlaces(t, "the first one goes on", flow.Reach(l, 0), []int{0, 5})
	isPlaces(t, "the others do not stand there", flow.Reach(l, 5), []int{5})
	isPlaces(t, "each by itself", flow.Reach(l, 1), []int{1})
}

func TestP5_4WhatDoesNotGoOnIsComeTo(t *testing.T) {
	for _, at := range huge() {
		l := []api.Instr{{At: 9, Op: api.OpJump, A: at}, {At: at, Op: 200}}
		isPlaces(t, "jumped to", flow.Reach(l, 9), once([]int{9, at}))
		isPlaces(t, "from it", flow.Reach(l, at), []int{at})
	}
	l := []api.Instr{{At: -3, Op: api.OpJump, A: 0}, {At: 0, Op: api.OpNop}}
	isPlaces(t, "out of code", flow.Reach(l, -3), []int{-3})
}

func TestP5_4ALongWay(t *testing.T) {
	n := api.MaxCode
	l := laid(make([]api.Instr, n)...)
	var all []int
	for at := range n {
		all = append(all, at)
	}
	isPlaces(t, "all", flow.Reach(l, 0), all)
	slices.Reverse(l)
	isPlaces(t, "all, turned round", flow.Reach(l, 0), all)
	isPlaces(t, "the last one", flow.Reach(l, n-1), []int{n - 1})
}
