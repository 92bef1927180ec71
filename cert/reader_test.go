package cert_test

import (
	"bytes"
	"slices"
	"testing"

	"proviso/api"
	"proviso/cert"
)

func TestP6_0HeaderBytes(t *testing.T) {
	if cert.HeaderBytes != 6 {
		t.Fatal(cert.HeaderBytes)
	}
}

func TestP6_5Open(t *testing.T) {
	for locals := range 17 {
		for _, count := range []int{0, 1, 255, 256, 4096} {
			b := []byte{0x70, 0x76, 1, byte(locals), byte(count / 256), byte(count % 256)}
			r, e := cert.Open(b)
			if e != api.OK || r.Locals() != locals || r.Count() != count || r.At() != 6 {
				t.Fatal(locals, count, e)
			}
		}
	}
	for _, x := range []struct {
		b []byte
		e api.Errno
	}{
		{nil, api.ErrShort}, {[]byte{0x70, 0x76, 1, 2, 0}, api.ErrShort}, {[]byte{0x70, 0x76, 1, 17}, api.ErrShort}, {[]byte{1}, api.ErrHead},
		{[]byte{0x70, 0x76, 1, 17, 0xff, 0}, api.ErrRange}, {[]byte{0x70, 0x76, 1, 16, 0x10, 1, 0}, api.ErrLong},
	} {
		if r, e := cert.Open(x.b); r != nil || e != x.e {
			t.Error(x.b, r, e)
		}
	}
}

func TestP6_5OpenLooksAtTheHeadAlone(t *testing.T) {
	for _, behind := range [][]byte{nil, {0xff}, {0xff, 0xff, 9}, {0, 0, 1, 99}, {0, 0, 1, 0, 6}} {
		r, e := cert.Open(append([]byte{0x70, 0x76, 1, 1, 0, 1}, behind...))
		if r == nil || e != api.OK || r.At() != cert.HeaderBytes {
			t.Error(behind, e)
		}
	}
}

func TestP6_6Next(t *testing.T) {
	d := dice(6)
	for range 300 {
		c := thrown(&d, 9)
		isRead(t, bytesTold(c), c.Entries, 0, api.OK)
	}
}

func TestP6_6EntriesAheadOfAWrongOneAreTold(t *testing.T) {
	good := []api.Entry{of(1, 2, 1, 2, 3), dead(5), of(4095, 2, 0, 47)}
	b := bytesTold(with(2, good...))
	for n := 6; n < len(b); n++ {
		entries, place, e := told(b[:n])
		isRead(t, b[:n], entries, place, e)
		if e != api.ErrShort || place != n {
			t.Fatal(n, place, e)
		}
	}
	isRead(t, append(slices.Clone(b), 1), good, len(b), api.ErrMore)
	b[15] = 2 // the second one's kind
	isRead(t, b, good[:1], 15, api.ErrKind)
}

func TestP6_6TwoReadersKnowNothingOfOneAnother(t *testing.T) {
	b := bytesTold(with(1, dead(1), dead(2)))
	r, _ := cert.Open(b)
	q, _ := cert.Open(b)
	r.Next()
	r.Next()
	if x, is, e := q.Next(); x != dead(1) || !is || e != api.OK || q.At() != 9 || r.At() != 12 {
		t.Fatal(x, is, e)
	}
}

func TestP6_7AReaderThatOpenDidNotMake(t *testing.T) {
	var none *cert.Reader
	for _, r := range []*cert.Reader{none, {}, new(cert.Reader)} {
		for range 2 {
			x, is, e := r.Next()
			if r.Locals() != 0 || r.Count() != 0 || r.At() != 0 || x != (api.Entry{}) || is || e != api.ErrNil {
				t.Fatal(x, is, e)
			}
		}
	}
}

func TestP6_8ThereAndBack(t *testing.T) {
	d := dice(7)
	for range 2000 {
		c := thrown(&d, 9)
		b, e := cert.Encode(c)
		back, n, f := cert.Decode(b)
		if e != api.OK || f != api.OK || n != 0 || !same(c, back) {
			t.Fatal(c, b, back, e, f)
		}
	}
	b, _ := cert.Encode(full())
	if c, _, e := cert.Decode(b); e != api.OK || !same(c, full()) {
		t.Fatal(e)
	}
}

func TestP6_9OneForm(t *testing.T) {
	d, taken := dice(8), 0
	for range 40000 {
		b := bytesTold(thrown(&d, 4))
		b[d.below(len(b))] = byte(d.below(256) >> d.below(8))
		c, _, e := cert.Decode(b)
		if e != api.OK {
			continue
		}
		taken++
		if n, e := cert.Check(c); n != 0 || e != api.OK {
			t.Fatal(c, n, e)
		}
		if back, e := cert.Encode(c); e != api.OK || !bytes.Equal(back, b) {
			t.Fatal(b, back, e)
		}
	}
	if taken < 5000 {
		t.Fatal("hardly anything was taken", taken)
	}
}

func TestP6_10EntryByEntry(t *testing.T) {
	d := dice(9)
	for range 20000 {
		b := bytesTold(thrown(&d, 5))
		b[d.below(len(b))] ^= 1 << d.below(8)
		b = b[:len(b)-d.below(2)]
		c, _, e := cert.Decode(b)
		r, f := cert.Open(b)
		if r == nil {
			if f == api.OK || f != e {
				t.Fatal(b, f, e)
			}
			continue
		}
		var all []api.Entry
		x, is, f := r.Next()
		for is {
			all = append(all, x)
			x, is, f = r.Next()
		}
		if f != e || e == api.OK && !slices.Equal(all, c.Entries) || r.At() > len(b) {
			t.Fatal(b, all, c, f, e)
		}
	}
}

func TestP6_11NoBeginning(t *testing.T) {
	d := dice(10)
	for range 500 {
		b, _ := cert.Encode(thrown(&d, 6))
		for n := range len(b) {
			if _, at, e := cert.Decode(b[:n]); e != api.ErrShort || at != n {
				t.Fatal(b, n, at, e)
			}
		}
		more := slices.Clone(b)
		for range 5 {
			more = append(more, byte(d.below(256)))
			if _, at, e := cert.Decode(more); e != api.ErrMore || at != len(b) {
				t.Fatal(more, at, e)
			}
		}
	}
}

func TestP6_12HowManyBytes(t *testing.T) {
	d := dice(11)
	for range 1000 {
		c := thrown(&d, 20)
		want := cert.HeaderBytes + 3*len(c.Entries)
		for _, x := range c.Entries {
			if !x.Dead {
				want += 1 + c.Locals + x.Frame.Height
			}
		}
		if b, _ := cert.Encode(c); len(b) != want {
			t.Fatal(c, len(b), want)
		}
	}
	if b, _ := cert.Encode(full()); len(b) != 6+4096*(3+1+24) {
		t.Fatal(len(b))
	}
}

// spoilt is all of a list's memory, its room included, written over.
func spoilt[T any](l []T, by T) {
	l = l[:cap(l)]
	for i := range l {
		l[i] = by
	}
}

func TestNothingHandedInIsChanged(t *testing.T) {
	d := dice(12)
	for range 200 {
		c := thrown(&d, 6)
		room := append(slices.Clone(c.Entries), dead(4000), dead(4001))
		was := slices.Clone(room)
		c.Entries = room[:len(c.Entries)]
		cert.Check(c)
		b, _ := cert.Encode(c)
		if !slices.Equal(room, was) {
			t.Fatal("Entries", room, was)
		}
		more := append(slices.Clone(b), 0xee, 0xef)
		kept := slices.Clone(more)
		b = more[:len(b)]
		cert.Decode(b)
		cert.Find(b, 3)
		r, _ := cert.Open(b)
		for is := true; is; {
			_, is, _ = r.Next()
		}
		if !bytes.Equal(more, kept) {
			t.Fatal("bytes", more, kept)
		}
	}
}

func TestRoomBehindTheEndIsNotRead(t *testing.T) {
	b := bytesTold(with(2, dead(1), of(2, 2, 1, 2, 3)))
	for n := range len(b) {
		if _, at, e := cert.Decode(b[:n]); at != n || e != api.ErrShort {
			t.Fatal(n, at, e)
		}
	}
	l := []api.Entry{dead(1), dead(1)}
	isCheck(t, "an entry behind the end", with(2, l[:1]...), 0, api.OK)
}

func TestAnswersAreNewMemory(t *testing.T) {
	c := with(2, dead(1), of(2, 2, 1, 2, 3))
	one, _ := cert.Encode(c)
	two, _ := cert.Encode(c)
	spoilt(one, '?')
	if !bytes.Equal(two, bytesTold(c)) {
		t.Fatal("Encode", two)
	}
	first, _, _ := cert.Decode(two)
	second, _, _ := cert.Decode(two)
	spoilt(first.Entries, dead(-7))
	spoilt(two, '?')
	if !same(second, c) {
		t.Fatal("Decode", second)
	}
}

// TestP6_6EndsThoughBytesChange: they must stay as they are; but if they do not, a call of the reader ends all the same.
func TestP6_6EndsThoughBytesChange(t *testing.T) {
	d := dice(13)
	for range 3000 {
		b := bytesTold(thrown(&d, 6))
		r, _ := cert.Open(b)
		for range 2 * len(b) {
			b[d.below(len(b))] = byte(d.below(256))
			r.Next()
			r.Locals()
			r.Count()
		}
		if r.At() > len(b) {
			t.Fatal(r.At())
		}
	}
}

func TestAllEndsOfAllArguments(t *testing.T) {
	d := dice(14)
	for range 20000 {
		b := make([]byte, d.below(40))
		for i := range b {
			b[i] = byte(d.below(256) >> d.below(8))
		}
		copy(b, []byte{0x70, 0x76, 1, byte(d.below(20)), 0, byte(d.below(4))}[:d.below(7)])
		asTold(t, b)
		x := api.Entry{At: d.below(1<<31) - 1<<30, Dead: d.below(2) == 0, Frame: api.Frame{Locals: d.below(40) - 10, Height: d.below(1<<31) - 1<<30}}
		cert.Check(with(d.below(20), x, x))
		cert.Encode(with(d.below(20), x))
	}
}
