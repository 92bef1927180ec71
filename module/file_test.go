package module_test

import (
	"bytes"
	"testing"

	"proviso/api"
	"proviso/module"
)

func TestP16_2Files(t *testing.T) {
	d := dice(5)
	code := greatest()
	for i := range code.Funcs {
		code.Funcs[i].Code = someBytes(&d, 4096)
	}
	certs := greatest()
	for i := range certs.Funcs {
		certs.Certs = append(certs.Certs, someBytes(&d, i*i*2))
	}
	long := shapes()
	long.Certs = [][]byte{someBytes(&d, 65535), nil, someBytes(&d, 256)}
	one := shapes()
	one.Funcs, one.Certs = one.Funcs[:1], [][]byte{nil}
	all := []api.Module{{Name: "m"}, shapes(), greatest(), code, certs, long, one}
	for range 3000 {
		all = append(all, some(&d))
	}
	for _, m := range all {
		b, why := module.Encode(m)
		if why != api.OK || !bytes.Equal(b, summed(body(m))) {
			t.Fatalf("%.300s\n% x\n% x", show(m), b[:min(200, len(b))], body(m)[:min(200, len(body(m)))])
		}
	}
}

// sized is a module whose file has so many bytes.
func sized(t *testing.T, n int) api.Module {
	m := greatest()
	for i := range m.Funcs {
		m.Funcs[i].Code = make([]byte, 4096)
		m.Certs = append(m.Certs, nil)
	}
	left := n - len(summed(body(m)))
	for i := range m.Certs {
		m.Certs[i] = bytes.Repeat([]byte{byte(i)}, min(left, 65535))
		left -= len(m.Certs[i])
	}
	if left != 0 || len(summed(body(m))) != n {
		t.Fatal("no such size", n, left)
	}
	return m
}

func TestP16_2TooLong(t *testing.T) {
	for _, n := range []int{1<<20 - 1, 1 << 20} {
		m := sized(t, n)
		b := file(t, m)
		if got, at, why := module.Decode(b); len(b) != n || at != 0 || why != api.OK || !module.Same(m, got) {
			t.Error(n, len(b), at, why)
		}
	}
	for _, n := range []int{1<<20 + 1, 1<<20 + 2, 1<<20 + 4, 1<<20 + 5, 1<<20 + 70000, 4 << 20} {
		m := sized(t, n)
		at, why := module.Check(m)
		b, e := module.Encode(m)
		if at != 0 || why != api.OK || len(b) > 0 || e != api.ErrLong {
			t.Error(n, at, why, len(b), e)
		}
		isRefused(t, summed(body(m)), 0, api.ErrLong)
	}
	m := sized(t, 4<<20) // what Check tells comes first
	m.Funcs[63].Name = "fun0"
	if b, why := module.Encode(m); len(b) > 0 || why != api.ErrTwice {
		t.Error(len(b), why)
	}
}

func TestP16_3TheBeginning(t *testing.T) {
	isRefused(t, make([]byte, 1<<20+1), 0, api.ErrLong)
	isRefused(t, make([]byte, 1<<20), 0, api.ErrMagic)
	good := []byte{0x70, 0x76, 0x6d, 0x01}
	for n := range 4 {
		isRefused(t, good[:n], n, api.ErrShort)
		for turned := range 256 {
			for at := range 4 {
				b := append(bytes.Clone(good), 0, 0, 0, 0, 0)[:n+at]
				if at < len(b) && byte(turned) != good[at] {
					b[at] = byte(turned)
					isRefused(t, b, at, api.ErrMagic)
				}
			}
		}
	}
	isRefused(t, nil, 0, api.ErrShort)
	isRefused(t, []byte{}, 0, api.ErrShort)
	isRefused(t, []byte{0x70, 0, 0x6d, 0}, 1, api.ErrMagic) // the first of them
	for n := 4; n < 8; n++ {
		isRefused(t, append(bytes.Clone(good), 1, 2, 3)[:n], n, api.ErrShort)
	}
	isRefused(t, append(bytes.Clone(good), 1, 2, 3, 4), 4, api.ErrSum)
	isRefused(t, append(bytes.Clone(good), 0, 0, 0, 0, 0), 5, api.ErrSum)
	isRefused(t, summed(good), 4, api.ErrShort) // the sum is right, and there is no name
}

func TestP16_3TheSum(t *testing.T) {
	for _, m := range []api.Module{{Name: "m"}, shapes(), greatest()} {
		b := file(t, m)
		end := len(b) - 4
		for at := end; at < len(b); at++ {
			for turn := 1; turn < 256; turn++ {
				x := bytes.Clone(b)
				x[at] ^= byte(turn)
				isRefused(t, x, end, api.ErrSum)
			}
		}
		x := bytes.Clone(b) // the sum's bytes the other way round
		x[end], x[end+1], x[end+2], x[end+3] = x[end+3], x[end+2], x[end+1], x[end]
		isRefused(t, x, end, api.ErrSum)
		isRefused(t, append(bytes.Clone(b), 0), end+1, api.ErrSum)
		isRefused(t, b[:len(b)-1], end-1, api.ErrSum)
	}
}

// parts are bytes of a file; the fault must be told between them.
type parts struct {
	ahead, behind string
	why           api.Errno
}

func TestP16_3FromTheFrontOn(t *testing.T) {
	const n25 = "\x19nnnnnnnnnnnnnnnnnnnnnnnnn"
	const class, fun = "\x01c\xff\x00", "\x01f\x00\x00\x00\x00\x01\x16"
	for _, x := range []parts{
		// names
		{"", "\x00", api.ErrName}, {"", n25, api.ErrName}, {"", "\x19", api.ErrName}, {"", "\x01" + "1", api.ErrName}, {"", "\x02a ", api.ErrName}, {"", "\x02a \xff\xff\xff", api.ErrName}, {"", "\xff", api.ErrName},
		{"\x01", "", api.ErrShort}, {"\x02a", "", api.ErrShort}, {"\x18nnnnnnnnnnnnnnnnnnnnnnn", "", api.ErrShort}, {"\x021", "", api.ErrShort}, {"\x01m", "", api.ErrShort},
		// classes
		{"\x01m", "\x21", api.ErrLong}, {"\x01m", "\xff\x00\x00", api.ErrLong}, {"\x01m\x20", "", api.ErrShort}, {"\x01m\x01", "\x00", api.ErrName}, {"\x01m\x01\x01c", "", api.ErrShort}, {"\x01m\x01\x01c\xff", "", api.ErrShort},
		{"\x01m\x01\x01c\xff", "\x21", api.ErrLong}, {"\x01m\x01\x01c\x07", "\xff\xff\xff", api.ErrLong}, {"\x01m\x01\x01c\xff\x20", "", api.ErrShort}, {"\x01m\x01\x01c\xff\x01", "\x00", api.ErrName}, {"\x01m\x01\x01c\xff\x01\x01x", "", api.ErrShort},
		{"\x01m\x01\x01c\xff\x02\x01x\x01", "\x01 ", api.ErrName}, {"\x01m\x02" + class, "\x01 ", api.ErrName}, {"\x01m\x01" + class, "", api.ErrShort},
		// functions
		{"\x01m\x00", "\x41", api.ErrLong}, {"\x01m\x00", "\xff", api.ErrLong}, {"\x01m\x01" + class, "\x41", api.ErrLong}, {"\x01m\x00\x40", "", api.ErrShort}, {"\x01m\x00\x01", "\x00", api.ErrName}, {"\x01m\x00\x01\x01f", "", api.ErrShort},
		{"\x01m\x00\x01\x01f", "\x09", api.ErrLong}, {"\x01m\x00\x01\x01f", "\xff\x01\x01", api.ErrLong}, {"\x01m\x00\x01\x01f\x08\x01\x01\x01\x01\x01\x01\x01", "", api.ErrShort}, {"\x01m\x00\x01\x01f\x01\x01", "", api.ErrShort},
		{"\x01m\x00\x01\x01f\x00\x00", "", api.ErrShort}, {"\x01m\x00\x01\x01f\x00\x00\x00", "", api.ErrShort}, {"\x01m\x00\x01\x01f\x00\x00\x00\x00", "", api.ErrShort}, {"\x01m\x00\x01\x01f\x00\x00\x00\x00\x01", "", api.ErrShort},
		{"\x01m\x00\x01\x01f\x00\x00\x00\xff\xff\x01\x02\x03", "", api.ErrShort}, {"\x01m\x00\x01" + fun, "", api.ErrShort}, {"\x01m\x00\x02" + fun, "\x00", api.ErrName},
		// certificates
		{"\x01m\x00\x00", "\x01", api.ErrCerts}, {"\x01m\x00\x00", "\x02", api.ErrCerts}, {"\x01m\x00\x00", "\xff\x00", api.ErrCerts}, {"\x01m\x00\x01" + fun, "\x02", api.ErrCerts}, {"\x01m\x00\x01" + fun, "\xff\x00\x00", api.ErrCerts},
		{"\x01m\x00\x00", "", api.ErrShort}, {"\x01m\x00\x01" + fun + "\x01", "", api.ErrShort}, {"\x01m\x00\x01" + fun + "\x01\x00", "", api.ErrShort}, {"\x01m\x00\x01" + fun + "\x01\x00\x01", "", api.ErrShort},
		{"\x01m\x00\x01" + fun + "\x01\xff\xff\x01", "", api.ErrShort},
		// more
		{"\x01m\x00\x00\x00", "\x00", api.ErrMore}, {"\x01m\x00\x00\x00", "\x01\x02\x03\x04\x05", api.ErrMore}, {"\x01m\x00\x01" + fun + "\x00", "\x00", api.ErrMore}, {"\x01m\x00\x01" + fun + "\x01\x00\x00", "\x00", api.ErrMore},
		{"\x01m\x00\x01" + fun + "\x01\x00\x02ab", "\x00\x00", api.ErrMore},
	} {
		isRefused(t, summed([]byte("pvm\x01"+x.ahead+x.behind)), 4+len(x.ahead), x.why)
	}
}

func TestP16_3WhatCheckTellsComesLast(t *testing.T) {
	const fun = "\x01f\x00\x00\x00\x00\x01\x16"
	for _, x := range []struct {
		body string
		why  api.Errno
	}{
		{"\x01m\x01\x03int\xff\x00\x00\x00", api.ErrName},
		{"\x01m\x02\x01c\xff\x00\x01c\xff\x00\x00\x00", api.ErrTwice},
		{"\x01m\x01\x01c\x00\x00\x00\x00", api.ErrParent}, {"\x01m\x01\x01c\xfe\x00\x00\x00", api.ErrParent}, {"\x01m\x01\x01c\x20\x00\x00\x00", api.ErrParent},
		{"\x01m\x01\x01c\xff\x01\x01x\x00\x00\x00", api.ErrType}, {"\x01m\x01\x01c\xff\x01\x01x\x11\x00\x00", api.ErrType}, {"\x01m\x01\x01c\xff\x02\x01x\x01\x01x\x01\x00\x00", api.ErrTwice},
		{"\x01m\x00\x02" + fun + fun + "\x00", api.ErrTwice},
		{"\x01m\x00\x01\x01f\x01\x00\x00\x01\x00\x01\x16\x00", api.ErrType}, {"\x01m\x00\x01\x01f\x00\x03\x00\x00\x01\x16\x00", api.ErrType},
		{"\x01m\x00\x01\x01f\x01\x01\x00\x00\x00\x01\x16\x00", api.ErrRange}, {"\x01m\x00\x01\x01f\x00\x00\x11\x00\x01\x16\x00", api.ErrRange}, {"\x01m\x00\x01\x01f\x00\x00\xff\x00\x01\x16\x00", api.ErrRange},
		{"\x01m\x00\x01\x01f\x00\x00\x00\x00\x00\x00", api.ErrShort},
		{"\x01m\x00\x01\x01f\x00\x00\x00\x10\x01" + string(make([]byte, 4097)) + "\x00", api.ErrLong},
		{"\x01m\x00\x01\x01f\x00\x00\x00\xff\xff" + string(make([]byte, 65535)) + "\x00", api.ErrLong},
		{"\x01m\x00\x01\x01f\x00\x00\x00\x10\x00" + string(make([]byte, 4096)) + "\x00", api.OK},
	} {
		b := summed([]byte("pvm\x01" + x.body))
		m, at, why := module.Decode(b)
		if at != 0 || why != x.why || why != api.OK && show(m) != show(api.Module{}) {
			t.Errorf("%.40q: %d %v", x.body, at, why)
		}
		if x.why != api.OK { // what is wrong behind it comes first
			isRefused(t, summed([]byte("pvm\x01"+x.body+"\x00")), 4+len(x.body), api.ErrMore)
			isRefused(t, summed([]byte("pvm\x01"+x.body[:len(x.body)-1])), 4+len(x.body)-1, api.ErrShort)
		}
	}
}

func TestP16_3HeldAgainstTheWords(t *testing.T) {
	came := map[api.Errno]int{}
	for _, m := range []api.Module{{Name: "m"}, shapes()} { // each byte turned into each other one, the sum made anew
		b := file(t, m)
		for at := range len(b) - 4 {
			for turn := range 256 {
				x := bytes.Clone(b[:len(b)-4])
				x[at] ^= byte(turn)
				came[isRead(t, summed(x))]++
			}
		}
	}
	d := dice(6)
	for range 15000 {
		m := some(&d)
		for range d.Below(3) {
			spoilt(&d, &m)
		}
		b := body(m)
		switch d.Below(6) {
		case 0:
			b = b[:d.Below(len(b)+1)]
		case 1:
			b = append(b, someBytes(&d, 1+d.Below(5))...)
		case 2:
			b = append([]byte("pvm\x01"), someBytes(&d, d.Below(30))...)
		}
		for range d.Below(4) {
			if len(b) > 4 {
				b[4+d.Below(len(b)-4)] = byte(d.Below(d.Below(256) + 1))
			}
		}
		if d.Below(10) > 0 {
			b = summed(b)
		}
		came[isRead(t, b)]++
	}
	for _, why := range []api.Errno{api.OK, api.ErrShort, api.ErrMore, api.ErrLong, api.ErrRange, api.ErrName, api.ErrTwice, api.ErrParent, api.ErrType, api.ErrMagic, api.ErrSum, api.ErrCerts} {
		if came[why] < 50 {
			t.Error(why, "hardly comes", came)
		}
	}
}

func TestExamplesOfChapter16(t *testing.T) {
	b := file(t, api.Module{Name: "m"})
	if want := summed([]byte{0x70, 0x76, 0x6d, 0x01, 0x01, 0x6d, 0, 0, 0}); !bytes.Equal(b, want) || len(b) != 13 {
		t.Errorf("% x", b)
	}
	x := file(t, api.Module{Name: "m", Funcs: []api.Func{{Name: "f", Code: []byte{0x16}}}})
	if want := summed([]byte{0x70, 0x76, 0x6d, 0x01, 0x01, 0x6d, 0, 1, 1, 0x66, 0, 0, 0, 0, 1, 0x16, 0}); !bytes.Equal(x, want) {
		t.Errorf("% x", x)
	}
	b[5] = 0x6e
	isRefused(t, b, 9, api.ErrSum)
	isRefused(t, []byte{0x70, 0x76, 0x6e}, 2, api.ErrMagic)
	twice := api.Func{Name: "f", Code: []byte{0x16}}
	isFault(t, api.Module{Name: "m", Funcs: []api.Func{twice, twice}}, 1, api.ErrTwice)
}
