package cert_test

import (
	"bytes"
	"math"
	"slices"
	"testing"

	"proviso/api"
	"proviso/cert"
)

// isCheck fails the test, if Check tells another thing, or Encode takes what Check does not.
func isCheck(t *testing.T, what string, c api.Cert, place int, want api.Errno) {
	t.Helper()
	if n, e := cert.Check(c); n != place || e != want {
		t.Errorf("%s: %d, %v; want %d, %v", what, n, e, place, want)
	}
	b, e := cert.Encode(c)
	if e != want || (e == api.OK) != (len(b) > 0) {
		t.Errorf("Encode, %s: %d bytes, %v; want %v", what, len(b), e, want)
	}
}

func TestP6_1Locals(t *testing.T) {
	for locals := range 17 {
		isCheck(t, "no entries", with(locals), 0, api.OK)
		isCheck(t, "an entry", with(locals, dead(0), of(5, locals, make([]api.Type, locals)...)), 0, api.OK)
	}
	for _, locals := range []int{-1, 17, 24, 256, -256, math.MinInt, math.MaxInt, 1 << 32} {
		isCheck(t, "no entries", with(locals), 0, api.ErrRange)
		isCheck(t, "ahead of all others", with(locals, make([]api.Entry, 5000)...), 0, api.ErrRange)
		isCheck(t, "ahead of its entries", with(locals, dead(1), dead(1)), 0, api.ErrRange)
	}
}

func TestP6_1UpToMaxEntries(t *testing.T) {
	var l []api.Entry
	for at := range 4097 {
		l = append(l, dead(at))
	}
	isCheck(t, "4095", with(3, l[:4095]...), 0, api.OK)
	isCheck(t, "4096", with(3, l[:4096]...), 0, api.OK)
	isCheck(t, "4097", with(3, l...), 4096, api.ErrLong)
	isCheck(t, "far more", with(3, slices.Repeat(l, 20)...), 4096, api.ErrLong)
	l[0].At = -1
	isCheck(t, "ahead of its entries", with(3, l...), 4096, api.ErrLong)
	isCheck(t, "the longest", full(), 0, api.OK)
}

func TestP6_1Addresses(t *testing.T) {
	for _, at := range []int{0, 1, 255, 256, 4094, 4095} {
		isCheck(t, "in code", with(2, dead(at)), 0, api.OK)
		isCheck(t, "twice", with(2, dead(at), dead(at)), 1, api.ErrDouble)
		isCheck(t, "twice, with a frame", with(0, dead(at), of(at, 0)), 1, api.ErrDouble)
	}
	for _, at := range []int{-1, 4096, 65536, math.MinInt, math.MaxInt, 1 << 32} {
		isCheck(t, "out of code", with(2, dead(at)), 0, api.ErrRange)
		isCheck(t, "out of code, behind another", with(2, dead(7), dead(at)), 1, api.ErrRange)
		isCheck(t, "out of code, twice", with(2, dead(at), dead(at)), 0, api.ErrRange)
	}
	isCheck(t, "falling", with(2, dead(9), dead(7)), 1, api.ErrOrder)
	isCheck(t, "falling by one", with(2, dead(1), dead(4095), dead(4094)), 2, api.ErrOrder)
	isCheck(t, "that of one farther ahead", with(2, dead(1), dead(5), dead(1)), 2, api.ErrOrder)
	isCheck(t, "rising", with(2, dead(0), dead(1), dead(4095)), 0, api.OK)
}

func TestP6_1DeadOnesHaveNoFrame(t *testing.T) {
	for _, f := range []api.Frame{{Locals: 2}, {Height: 1}, {Locals: -1}, {Height: math.MaxInt}} {
		isCheck(t, "a frame", with(2, dead(3), api.Entry{At: 4, Dead: true, Frame: f}), 1, api.ErrEntry)
	}
	for i := range 24 {
		for _, c := range []api.Type{1, 6, 255} {
			x := dead(4)
			x.Frame.Slots[i] = c
			isCheck(t, "a slot", with(2, dead(3), x), 1, api.ErrEntry)
		}
	}
}

func TestP6_1Frames(t *testing.T) {
	numbers := []int{math.MinInt, -17, -2, math.MaxInt, math.MaxInt - 15, math.MaxInt - 16, math.MaxInt32, 256}
	for n := -1; n < 30; n++ {
		numbers = append(numbers, n)
	}
	for locals := range 17 {
		for _, own := range numbers {
			for _, height := range numbers {
				want := api.ErrEntry
				if own == locals && height >= 0 && height <= 24-locals {
					want = api.OK
				}
				place := 1
				if want == api.OK {
					place = 0
				}
				isCheck(t, "shape", with(locals, dead(3), api.Entry{At: 4, Frame: api.Frame{Locals: own, Height: height}}), place, want)
			}
		}
	}
}

func TestP6_1Slots(t *testing.T) {
	for locals := range 17 {
		for _, height := range []int{0, 1, 24 - locals} {
			for i := range 24 {
				for c := range 256 {
					x := of(4, locals, make([]api.Type, locals+height)...)
					x.Frame.Slots[i] = api.Type(c)
					place, want := 0, api.OK
					if i >= locals+height && c != 0 {
						place, want = 1, api.ErrEntry
					} else if !slices.Contains(codes(), api.Type(c)) {
						place, want = 1, api.ErrCode
					}
					isCheck(t, "slot", with(locals, dead(3), x, dead(9)), place, want)
				}
			}
		}
	}
}

func TestP6_1FirstError(t *testing.T) {
	bad := of(9, 2, 6, 7, 8)
	isCheck(t, "code", with(2, bad), 0, api.ErrCode)
	more := bad
	more.Frame.Slots[3] = 1
	isCheck(t, "a slot behind ahead of a code", with(2, more), 0, api.ErrEntry)
	more.Frame.Slots[3] = 6
	isCheck(t, "a slot behind, no code either", with(2, more), 0, api.ErrEntry)
	isCheck(t, "address ahead of frame", with(2, dead(10), bad), 1, api.ErrOrder)
	isCheck(t, "address ahead of frame", with(2, dead(9), more), 1, api.ErrDouble)
	more.At = 4096
	isCheck(t, "range ahead of frame", with(3, more), 0, api.ErrRange)
	isCheck(t, "the first entry's", with(2, bad, dead(1), dead(-1)), 0, api.ErrCode)
	isCheck(t, "the first entry's", with(3, dead(1), bad, dead(1), dead(-1)), 1, api.ErrEntry)
}

func TestP6_2Encode(t *testing.T) {
	d := dice(1)
	for range 1000 {
		c := thrown(&d, 12)
		if b, e := cert.Encode(c); !bytes.Equal(b, bytesTold(c)) || e != api.OK {
			t.Fatalf("%v: % x, %v", c, b, e)
		}
	}
	if b, e := cert.Encode(full()); !bytes.Equal(b, bytesTold(full())) || e != api.OK {
		t.Fatal(len(b), e)
	}
	for _, c := range []api.Cert{with(17), with(0, dead(-1)), with(1, dead(0), of(5, 0))} {
		if b, e := cert.Encode(c); b != nil || e == api.OK {
			t.Fatal(c, b, e)
		}
	}
}

func TestP6_3TheHead(t *testing.T) {
	good := bytesTold(with(2, dead(7)))
	for n := range 7 {
		asTold(t, good[:n])
	}
	for at := range 6 {
		for x := range 256 {
			b := slices.Clone(good)
			b[at] = byte(x)
			for n := range len(b) + 1 {
				asTold(t, b[:n])
			}
		}
	}
	for _, x := range []struct {
		b  []byte
		at int
		e  api.Errno
	}{
		{nil, 0, api.ErrShort}, {[]byte{}, 0, api.ErrShort}, {[]byte{0x70}, 1, api.ErrShort}, {[]byte{0x70, 0x76}, 2, api.ErrShort},
		{[]byte{0x71}, 0, api.ErrHead}, {[]byte{0x70, 0x70}, 1, api.ErrHead}, {[]byte{0x70, 0x76, 0}, 2, api.ErrHead}, {[]byte{0, 0, 0, 0, 0, 0}, 0, api.ErrHead},
		{[]byte{0x70, 0x76, 1}, 3, api.ErrShort}, {[]byte{0x70, 0x76, 1, 17}, 4, api.ErrShort}, {[]byte{0x70, 0x76, 1, 17, 255}, 5, api.ErrShort},
		{[]byte{0x70, 0x76, 1, 17, 255, 255}, 3, api.ErrRange}, {[]byte{0x70, 0x76, 1, 16, 0x10, 1}, 4, api.ErrLong},
		{[]byte{0x70, 0x76, 1, 16, 0x10, 0}, 6, api.ErrShort}, {[]byte{0x70, 0x76, 1, 16, 0, 0}, 0, api.OK},
	} {
		if c, n, e := cert.Decode(x.b); n != x.at || e != x.e || len(c.Entries) > 0 {
			t.Errorf("% x: %d, %v; want %d, %v", x.b, n, e, x.at, x.e)
		}
	}
}

func TestP6_3CutAnywhere(t *testing.T) {
	d := dice(2)
	for range 300 {
		b := bytesTold(thrown(&d, 6))
		for n := range len(b) + 1 {
			asTold(t, b[:n])
		}
	}
}

func TestP6_3TurnedAnywhere(t *testing.T) {
	d := dice(3)
	for range 30 {
		b := bytesTold(thrown(&d, 4))
		for at := range b {
			was := b[at]
			for x := range 256 {
				b[at] = byte(x)
				asTold(t, b)
			}
			b[at] = was
		}
	}
}

func TestP6_3Thrown(t *testing.T) {
	d := dice(4)
	seen := map[api.Errno]int{}
	for range 60000 {
		b := bytesTold(thrown(&d, 5))
		for range 1 + d.below(3) {
			at := d.below(len(b))
			b[at] = []byte{0, 1, 2, 3, 5, 6, 15, 16, 47, 48, b[at] + 1, byte(d.below(256))}[d.below(12)]
		}
		b = append(b, make([]byte, d.below(2))...)
		_, _, e := told(b)
		seen[e]++
		asTold(t, b)
	}
	for _, e := range []api.Errno{api.OK, api.ErrShort, api.ErrMore, api.ErrLong, api.ErrRange, api.ErrOrder, api.ErrDouble, api.ErrCode, api.ErrKind, api.ErrHead, api.ErrEntry} {
		if seen[e] < 20 {
			t.Error("hardly ever", e, seen[e])
		}
	}
}

func TestP6_3FirstFaultOfAnEntry(t *testing.T) {
	head := []byte{0x70, 0x76, 1, 2, 0, 2, 0, 9, 0}
	for _, x := range []struct {
		b  []byte
		at int
		e  api.Errno
	}{
		{nil, 9, api.ErrShort}, {[]byte{0x10}, 10, api.ErrShort}, {[]byte{0x10, 0}, 9, api.ErrRange}, {[]byte{0xff, 0xff, 7}, 9, api.ErrRange},
		{[]byte{0, 9}, 9, api.ErrDouble}, {[]byte{0, 9, 7}, 9, api.ErrDouble}, {[]byte{0, 8}, 9, api.ErrOrder}, {[]byte{0, 8, 7}, 9, api.ErrOrder},
		{[]byte{0x0f, 0xff}, 11, api.ErrShort}, {[]byte{0, 10, 2}, 11, api.ErrKind}, {[]byte{0, 10, 255}, 11, api.ErrKind},
		{[]byte{0, 10, 1}, 12, api.ErrShort}, {[]byte{0, 10, 1, 23}, 12, api.ErrEntry}, {[]byte{0, 10, 1, 255, 6}, 12, api.ErrEntry},
		{[]byte{0, 10, 1, 22}, 13, api.ErrShort}, {[]byte{0, 10, 1, 0, 6}, 13, api.ErrCode}, {[]byte{0, 10, 1, 0, 5}, 14, api.ErrShort},
		{[]byte{0, 10, 1, 0, 5, 48, 0}, 14, api.ErrCode}, {[]byte{0, 10, 1, 0, 5, 47, 0}, 15, api.ErrMore}, {[]byte{0, 10, 1, 0, 16, 0}, 0, api.OK},
		{[]byte{0, 10, 0, 0}, 12, api.ErrMore}, {[]byte{0, 10, 0}, 0, api.OK},
	} {
		b := append(slices.Clone(head), x.b...)
		if _, n, e := cert.Decode(b); n != x.at || e != x.e {
			t.Errorf("% x: %d, %v; want %d, %v", b, n, e, x.at, x.e)
		}
	}
}

func TestP6_3UpToMaxEntries(t *testing.T) {
	b := bytesTold(full())
	asTold(t, b)
	asTold(t, b[:len(b)-1])
	asTold(t, append(slices.Clone(b), 0))
	b[5] = 1
	asTold(t, b)
}

func TestP6_4Find(t *testing.T) {
	d := dice(5)
	for range 300 {
		c := thrown(&d, 8)
		b := bytesTold(c)
		for _, at := range []int{-1, -65536, 4096, 65536 + 1, math.MinInt, math.MaxInt, 1 << 32} {
			if x, is, e := cert.Find(b, at); x != (api.Entry{}) || is || e != api.OK {
				t.Fatal(at, x, is, e)
			}
		}
		for at := range 300 {
			i := slices.IndexFunc(c.Entries, func(x api.Entry) bool { return x.At == at })
			var want api.Entry
			if i >= 0 {
				want = c.Entries[i]
			}
			if x, is, e := cert.Find(b, at); x != want || is != (i >= 0) || e != api.OK {
				t.Fatal(c, at, x, is, e)
			}
			if x, is, e := cert.Find(append(slices.Clone(b), 9), at); x != (api.Entry{}) || is || e != api.ErrMore {
				t.Fatal("an error behind the entry", at, x, is, e)
			}
		}
	}
	if _, is, e := cert.Find(nil, 0); is || e != api.ErrShort {
		t.Fatal(is, e)
	}
}

func TestExamplesOfChapter6(t *testing.T) {
	framed := with(2, of(9, 2, api.TInt, api.TTop, api.TBool))
	plain := []byte{0x70, 0x76, 0x01, 0x02, 0x00, 0x00}
	withDead := []byte{0x70, 0x76, 0x01, 0x02, 0x00, 0x01, 0x00, 0x07, 0x00}
	withFrame := []byte{0x70, 0x76, 0x01, 0x02, 0x00, 0x01, 0x00, 0x09, 0x01, 0x01, 0x01, 0x00, 0x02}
	for _, x := range []struct {
		c api.Cert
		b []byte
	}{{with(2), plain}, {with(2, dead(7)), withDead}, {framed, withFrame}} {
		b, e := cert.Encode(x.c)
		if !bytes.Equal(b, x.b) || e != api.OK {
			t.Error(b, e)
		}
		if _, n, e := cert.Decode(append(b, 0)); n != len(x.b) || e != api.ErrMore {
			t.Error(n, e)
		}
	}
	for _, x := range []struct {
		b  []byte
		at int
		e  api.Errno
	}{
		{[]byte{0x70, 0x76, 0x02}, 2, api.ErrHead}, {[]byte{0x70, 0x76}, 2, api.ErrShort}, {[]byte{0x70, 0x76, 0x01, 0x11, 0x00, 0x00}, 3, api.ErrRange},
		{append(slices.Clone(withFrame[:8]), 2), 8, api.ErrKind}, {append(slices.Clone(withFrame[:10]), 6), 10, api.ErrCode},
		{[]byte{0x70, 0x76, 1, 2, 0, 2, 0, 7, 0, 0, 7, 0}, 9, api.ErrDouble}, {[]byte{0x70, 0x76, 1, 2, 0, 2, 0, 9, 0, 0, 7, 0}, 9, api.ErrOrder},
		{[]byte{0x70, 0x76, 1, 16, 0, 1, 0, 7, 1, 9}, 9, api.ErrEntry},
	} {
		if _, n, e := cert.Decode(x.b); n != x.at || e != x.e {
			t.Errorf("% x: %d, %v", x.b, n, e)
		}
	}
	isCheck(t, "16 locals and Height 9", with(16, of(0, 16, make([]api.Type, 24)...), api.Entry{At: 1, Frame: api.Frame{Locals: 16, Height: 9}}), 1, api.ErrEntry)
}
