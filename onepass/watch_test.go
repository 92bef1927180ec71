package onepass_test

import (
	"bytes"
	"errors"
	"math"
	"slices"
	"testing"

	"proviso/api"
	"proviso/code"
	"proviso/onepass"
	"proviso/samples"
)

// asker tells code byte by byte, and keeps for which addresses it was asked; one address it may panic at.
type asker struct {
	b     []byte
	asked []int
	bad   int
	with  any
}

func (a *asker) fetch(at int) byte {
	a.asked = append(a.asked, at)
	if at == a.bad {
		panic(a.with)
	}
	return a.b[at]
}

func rises(l []int) bool {
	for i := 1; i < len(l); i++ {
		if l[i] <= l[i-1] {
			return false
		}
	}
	return true
}

// bytesFetched is the addresses of all bytes of these instructions.
func bytesFetched(b []byte, fetched []int) []int {
	var all []int
	for _, at := range fetched {
		for i := range code.Size(b[at]) {
			all = append(all, at+i)
		}
	}
	return all
}

func TestP9_2WatchIsCheck(t *testing.T) {
	for _, x := range someCode(5, 8000) {
		g, place, err := onepass.Check(x.e, x.locals, x.b, x.proof)
		a := &asker{b: x.b, bad: -1}
		at, why := onepass.Watch(x.e, x.locals, len(x.b), a.fetch, x.proof)
		if at != place || why != err || !rises(a.asked) {
			t.Fatal(x.b, at, why, a.asked)
		}
		if why == api.OK && !slices.Equal(a.asked, bytesFetched(x.b, g.Fetched)) {
			t.Fatal(x.b, a.asked, g)
		}
	}
}

func TestP9_2FetchPanics(t *testing.T) {
	for i, x := range someCode(7, 1000) {
		a := &asker{b: x.b, bad: -1}
		place, err := onepass.Watch(x.e, x.locals, len(x.b), a.fetch, x.proof)
		for at := range x.b {
			with := []any{1, "text", api.ErrMisfit, api.Fault{At: 3, Why: api.OK}, errors.New("own"), &api.Fault{At: 2, Why: api.ErrDead}, nil}[(i+at)%7]
			c := &asker{b: x.b, bad: at, with: with}
			got, why := onepass.Watch(x.e, x.locals, len(x.b), c.fetch, x.proof)
			n := slices.Index(a.asked, at)
			switch {
			case n < 0 && (got != place || why != err || !slices.Equal(c.asked, a.asked)):
				t.Fatal("it was not asked there", x.b, at, got, why)
			case n >= 0 && (got != 0 || why != api.ErrArg || !slices.Equal(c.asked, a.asked[:n+1])):
				t.Fatal("it panicked", x.b, at, got, why, c.asked)
			}
		}
	}
}

func TestP9_2FetchPanicsByItself(t *testing.T) {
	var none []byte
	for name, fetch := range map[string]func(at int) byte{
		"behind an end": func(at int) byte { return none[at] },
		"a nil pointer": func(at int) byte { var p *asker; return p.b[at] },
		"a division":    func(at int) byte { return byte(1 / at) },
		"within another check": func(at int) byte {
			onepass.Check(samples.One(), 0, []byte{nop, nop}, []byte{1})
			panic(at)
		},
	} {
		if at, why := onepass.Watch(samples.One(), 0, 1, fetch, proofOf(t, 0)); at != 0 || why != api.ErrArg {
			t.Error(name, at, why)
		}
	}
	asks := func(at int) byte { // a check within a check, that is refused, is no refusal of the outer one
		if n, why := onepass.Watch(samples.One(), 0, 2, func(int) byte { return nop }, proofOf(t, 0)); n != 1 || why != api.ErrOff {
			t.Error("within", n, why)
		}
		return []byte{nop, back}[at]
	}
	if at, why := onepass.Watch(samples.One(), 0, 2, asks, proofOf(t, 0)); at != 0 || why != api.OK {
		t.Error("the outer one", at, why)
	}
}

func TestP9_2Arguments(t *testing.T) {
	fails := func(at int) byte {
		t.Error("it was asked", at)
		return 0
	}
	good := proofOf(t, 0)
	for _, n := range samples.Numbers() {
		if at, why := onepass.Watch(samples.One(), 0, n, nil, good); at != 0 || why != api.ErrArg {
			t.Error("no fetch", n, at, why)
		}
		want := map[bool]api.Errno{true: api.ErrArg, false: api.ErrLong}[n < 0]
		if n > 0 && n <= api.MaxCode {
			continue
		}
		if n == 0 {
			want = api.ErrOff
		}
		if at, why := onepass.Watch(samples.One(), 0, n, fails, good); at != 0 || why != want {
			t.Error(n, at, why)
		}
		if at, why := onepass.Watch(api.Env{}, 0, n, fails, good); at != 0 || why != api.ErrArg {
			t.Error("the environment ahead", n, at, why)
		}
	}
	for _, x := range []struct {
		locals int
		proof  []byte
		at     int
		want   api.Errno
	}{{-1, good, 0, api.ErrArg}, {math.MaxInt, good, 0, api.ErrArg}, {0, good[:5], 5, api.ErrShort}, {0, proofOf(t, 0, with(2, api.TClass)), 2, api.ErrEntry}, {1, good, 0, api.ErrShape}} {
		if at, why := onepass.Watch(samples.One(), x.locals, 3, fails, x.proof); at != x.at || why != x.want {
			t.Error("nothing is fetched", x, at, why)
		}
	}
}

func TestP9_2EdgesOfFetching(t *testing.T) {
	for _, x := range []struct {
		name string
		b    []byte
		l    []api.Entry
		at   int
		want api.Errno
		last int
	}{
		{"MaxCode bytes", append(make([]byte, api.MaxCode-1), back), nil, 0, api.OK, api.MaxCode - 1},
		{"a dead end", []byte{back, 1, 2, 3}, []api.Entry{dead(1)}, 0, api.OK, 0},
		{"no instruction", []byte{nop, 34, 0, 0}, nil, 1, api.ErrOp, 1},
		{"operands up to the end", []byte{nop, num, 0, 0, 0, 0}, nil, 1, api.ErrOff, 5},
		{"operands behind the end", []byte{nop, num}, nil, 1, api.ErrShort, 1},
		{"a refusal ahead of what comes later", []byte{nop, pop, back}, nil, 1, api.ErrUnder, 1},
	} {
		a := &asker{b: x.b, bad: -1}
		at, why := onepass.Watch(samples.One(), 0, len(x.b), a.fetch, proofOf(t, 0, x.l...))
		if at != x.at || why != x.want || !rises(a.asked) || a.asked[len(a.asked)-1] != x.last {
			t.Error(x.name, at, why, a.asked)
		}
	}
}

// TestP9_2CodeThatIsToldAnew tells another code at every check: each check is of what it was told.
func TestP9_2CodeThatIsToldAnew(t *testing.T) {
	d := dice(11)
	for range 3000 {
		told := map[int]byte{}
		n := 1 + d.Below(12)
		fetch := func(at int) byte {
			if _, is := told[at]; is || at < 0 || at >= n {
				t.Error("asked twice, or out of the code", at)
			}
			told[at] = []byte{nop, back, boolean, 0, 1, pop, api.OpNull, trap, jump, unless, 40}[d.Below(11)]
			return told[at]
		}
		p := proofOf(t, 0, none(0), none(2), dead(9))
		place, err := onepass.Watch(samples.One(), 0, n, fetch, p)
		b := bytes.Repeat([]byte{99}, n)
		for at, x := range told {
			b[at] = x
		}
		if _, at, why := onepass.Check(samples.One(), 0, b, p); at != place || why != err {
			t.Fatal(b, at, why, place, err)
		}
	}
}
