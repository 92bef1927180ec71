package cert_test

import (
	"slices"
	"testing"

	"proviso/api"
	"proviso/cert"
)

// dice throws the same numbers at every run.
type dice uint64

func (d *dice) below(n int) int {
	*d = *d*6364136223846793005 + 1442695040888963407
	return int(uint64(*d) >> 33 % uint64(n))
}

// codes are all codes of types: chapter 6.1.
func codes() []api.Type {
	all := []api.Type{0, 1, 2, 3, 4, 5}
	for c := range 32 {
		all = append(all, 16+api.Type(c))
	}
	return all
}

// of is an entry with a frame; the first so many types are its locals.
func of(at, locals int, slots ...api.Type) api.Entry {
	x := api.Entry{At: at, Frame: api.Frame{Locals: locals, Height: len(slots) - locals}}
	copy(x.Frame.Slots[:], slots)
	return x
}

func dead(at int) api.Entry { return api.Entry{At: at, Dead: true} }

// with is a certificate of these entries.
func with(locals int, l ...api.Entry) api.Cert { return api.Cert{Locals: locals, Entries: l} }

// thrown is a certificate that may be, as the dice fall.
func thrown(d *dice, most int) api.Cert {
	c := with(d.below(17))
	at := d.below(3)
	for range d.below(most + 1) {
		if d.below(3) == 0 {
			c.Entries = append(c.Entries, dead(at))
		} else {
			slots := make([]api.Type, c.Locals+d.below(25-c.Locals))
			for i := range slots {
				slots[i] = codes()[d.below(38)]
			}
			c.Entries = append(c.Entries, of(at, c.Locals, slots...))
		}
		at += 1 + d.below(1<<d.below(8))
	}
	return c
}

// full is the longest certificate: MaxEntries entries of all slots.
func full() api.Cert {
	c := with(16)
	for at := range 4096 {
		c.Entries = append(c.Entries, of(at, 16, slices.Repeat([]api.Type{47}, 24)...))
	}
	return c
}

func same(a, b api.Cert) bool { return a.Locals == b.Locals && slices.Equal(a.Entries, b.Entries) }

// bytesTold is chapter 6.2.
func bytesTold(c api.Cert) []byte {
	b := []byte{0x70, 0x76, 1, byte(c.Locals), byte(len(c.Entries) / 256), byte(len(c.Entries) % 256)}
	for _, x := range c.Entries {
		b = append(b, byte(x.At/256), byte(x.At%256))
		if x.Dead {
			b = append(b, 0)
			continue
		}
		b = append(b, 1, byte(x.Frame.Height))
		for i := range c.Locals + x.Frame.Height {
			b = append(b, byte(x.Frame.Slots[i]))
		}
	}
	return b
}

// told is what P6.3 says of bytes, gone through as a list of what must stand where: the entries ahead of the fault, its place, its error.
func told(b []byte) (entries []api.Entry, place int, e api.Errno) {
	for i, must := range []byte{0x70, 0x76, 1} {
		if len(b) <= i {
			return nil, len(b), api.ErrShort
		}
		if b[i] != must {
			return nil, i, api.ErrHead
		}
	}
	switch {
	case len(b) < 6:
		return nil, len(b), api.ErrShort
	case b[3] > 16:
		return nil, 3, api.ErrRange
	case int(b[4])*256+int(b[5]) > 4096:
		return nil, 4, api.ErrLong
	}
	at, ahead := 6, -1
	for range int(b[4])*256 + int(b[5]) {
		x, n, e := toldEntry(b, at, ahead, int(b[3]))
		if e != api.OK {
			return entries, n, e
		}
		entries = append(entries, x)
		at, ahead = n, x.At
	}
	if at < len(b) {
		return entries, at, api.ErrMore
	}
	return entries, 0, api.OK
}

// toldEntry is the entry at a place, and the place behind it; else that of the fault.
func toldEntry(b []byte, at, ahead, locals int) (api.Entry, int, api.Errno) {
	if len(b)-at < 2 {
		return api.Entry{}, len(b), api.ErrShort
	}
	x := api.Entry{At: int(b[at])*256 + int(b[at+1])}
	switch {
	case x.At > 4095:
		return api.Entry{}, at, api.ErrRange
	case x.At == ahead:
		return api.Entry{}, at, api.ErrDouble
	case x.At < ahead:
		return api.Entry{}, at, api.ErrOrder
	case len(b)-at < 3:
		return api.Entry{}, len(b), api.ErrShort
	case b[at+2] == 0:
		x.Dead = true
		return x, at + 3, api.OK
	case b[at+2] != 1:
		return api.Entry{}, at + 2, api.ErrKind
	case len(b)-at < 4:
		return api.Entry{}, len(b), api.ErrShort
	case locals+int(b[at+3]) > 24:
		return api.Entry{}, at + 3, api.ErrEntry
	}
	x.Frame.Locals, x.Frame.Height = locals, int(b[at+3])
	for i := range locals + x.Frame.Height {
		if len(b)-at < 5+i {
			return api.Entry{}, len(b), api.ErrShort
		}
		x.Frame.Slots[i] = api.Type(b[at+4+i])
		if !slices.Contains(codes(), x.Frame.Slots[i]) {
			return api.Entry{}, at + 4 + i, api.ErrCode
		}
	}
	return x, at + 4 + locals + x.Frame.Height, api.OK
}

// asTold fails the test, if Decode, Open and Next, or Find answer another thing of bytes than P6.3 to P6.6 say.
func asTold(t *testing.T, b []byte) {
	t.Helper()
	entries, place, e := told(b)
	var want api.Cert
	if e == api.OK {
		want = with(int(b[3]), entries...)
	}
	if c, n, f := cert.Decode(b); !same(c, want) || n != place || f != e {
		t.Fatalf("Decode(% .60x): %d entries, %d, %v; want %d, %d, %v", b, len(c.Entries), n, f, len(want.Entries), place, e)
	}
	isRead(t, b, entries, place, e)
	at := 0
	if len(entries) > 0 {
		at = entries[len(entries)/2].At
	}
	x, is, f := cert.Find(b, at)
	if e != api.OK && (x != api.Entry{} || is || f != e) {
		t.Fatalf("Find(% .60x, %d): %v, %v, %v", b, at, x, is, f)
	}
	if e == api.OK && len(entries) > 0 && (x != entries[len(entries)/2] || !is || f != api.OK) {
		t.Fatalf("Find(% .60x, %d): %v, %v, %v", b, at, x, is, f)
	}
}

// isRead fails the test, if Open and Next do not tell these entries and then this error.
func isRead(t *testing.T, b []byte, entries []api.Entry, place int, e api.Errno) {
	t.Helper()
	r, f := cert.Open(b)
	if e != api.OK && place < 6 {
		if r != nil || f != e {
			t.Fatalf("Open(% .60x): %v, %v; want %v", b, r, f, e)
		}
		return
	}
	if r == nil || f != api.OK || r.Locals() != int(b[3]) || r.Count() != int(b[4])*256+int(b[5]) || r.At() != 6 {
		t.Fatalf("Open(% .60x): %v", b, f)
	}
	at := 6
	for _, want := range entries {
		if x, is, f := r.Next(); x != want || !is || f != api.OK {
			t.Fatalf("Next of % .60x: %v, %v, %v; want %v", b, x, is, f, want)
		}
		at += 3
		if !want.Dead {
			at += 1 + want.Frame.Locals + want.Frame.Height
		}
		if r.At() != at {
			t.Fatal("At", r.At(), at)
		}
	}
	for range 3 {
		if x, is, f := r.Next(); x != (api.Entry{}) || is || f != e || r.At() != at {
			t.Fatalf("at last Next of % .60x: %v, %v, %v, at %d; want %v at %d", b, x, is, f, r.At(), e, at)
		}
	}
	if r.Locals() != int(b[3]) || r.Count() != int(b[4])*256+int(b[5]) {
		t.Fatal("Locals, Count", r.Locals(), r.Count())
	}
}
