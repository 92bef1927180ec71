package talk_test

import (
	"bytes"
	"math"
	"slices"
	"testing"

	"proviso/api"
	"proviso/samples"
	"proviso/talk"
)

// numbers are some out of all ranges, and the ends of a frame's.
func numbers() []int {
	return append(samples.Numbers(), 9, 10, 11, 127, 128, 254, 255, 256, 257, 512, 0x1234, 65534, 65535, 65536, 65537, -255, -256, -65535, 1<<32+1, math.MaxInt32+1)
}

// datas are Data of all lengths up to the most, and some beyond.
func datas() [][]byte {
	var l [][]byte
	for _, n := range []int{0, 1, 2, 3, 63, 128, 252, 254, 255, 256, 257, 511, 512, 65536} {
		b := make([]byte, n)
		for i := range b {
			b[i] = byte(7*i + n)
		}
		l = append(l, b)
	}
	return append(l, nil)
}

func TestP24_1Pack(t *testing.T) {
	for _, command := range numbers() {
		for _, number := range numbers() {
			for _, data := range datas() {
				b, why := talk.Pack(api.Request{Command: command, Number: number, Data: data})
				r := api.Request{Command: command, Number: number, Data: data}
				switch {
				case command < 0 || command > 255 || number < 0 || number > 65535:
					if len(b) > 0 || why != api.ErrRange {
						t.Fatal(command, number, len(data), b, why)
					}
				case len(data) > 255:
					if len(b) > 0 || why != api.ErrLong {
						t.Fatal(command, number, len(data), b, why)
					}
				case !bytes.Equal(b, requestTold(r)) || len(b) != 9+len(data) || why != api.OK:
					t.Fatal(command, number, len(data), b, why)
				}
			}
		}
	}
	for command := range 256 {
		if b, why := talk.Pack(api.Request{Command: command, Number: 258 * command % 65536}); !bytes.Equal(b, requestTold(api.Request{Command: command, Number: 258 * command})) || why != api.OK {
			t.Error(command, b, why)
		}
	}
}

func TestP24_1Told(t *testing.T) {
	for _, status := range append(numbers(), 0x9000, 0x6700, 0x6d00, 0x6985, 0x6b00, 0x6f00, 0x6adc, 0x650f) {
		for _, data := range datas() {
			b, why := talk.Told(api.Answer{Status: status, Data: data})
			switch {
			case status < 0 || status > 65535:
				if len(b) > 0 || why != api.ErrRange {
					t.Fatal(status, len(data), b, why)
				}
			case len(data) > 255:
				if len(b) > 0 || why != api.ErrLong {
					t.Fatal(status, len(data), b, why)
				}
			case !bytes.Equal(b, answerTold(api.Answer{Status: status, Data: data})) || len(b) != 8+len(data) || why != api.OK:
				t.Fatal(status, len(data), b, why)
			}
		}
	}
}

func TestP24_1Bytes(t *testing.T) {
	b, _ := talk.Pack(api.Request{Command: 5, Number: 0x0102, Data: []byte("ab")})
	if want := []byte{0x50, 5, 1, 2, 2, 'a', 'b'}; !bytes.Equal(b[:7], want) || len(b) != 11 {
		t.Errorf("% x", b)
	}
	b, _ = talk.Told(api.Answer{Status: 0x9001, Data: []byte{7}})
	if want := []byte{0x70, 0x90, 1, 1, 7}; !bytes.Equal(b[:5], want) || len(b) != 9 {
		t.Errorf("% x", b)
	}
}

// isUnpacked holds Unpack and Heard to the chapter told over again: what they answered.
func isUnpacked(t *testing.T, b []byte) (request, answer api.Errno) {
	t.Helper()
	r, why := talk.Unpack(b)
	if want, e := unpackTold(b); show(r) != show(want) || why != e {
		t.Fatalf("Unpack(% .100x): %v, %v; wanted %v, %v", b, r, why, want, e)
	}
	a, heard := talk.Heard(b)
	if want, e := heardTold(b); show(a) != show(want) || heard != e {
		t.Fatalf("Heard(% .100x): %v, %v; wanted %v, %v", b, a, heard, want, e)
	}
	return why, heard
}

// someFrames are frames of both kinds.
func someFrames() [][]byte {
	long := bytes.Repeat([]byte{0x50, 0x70, 0, 255}, 64)[:255]
	return [][]byte{
		requestTold(api.Request{}), requestTold(api.Request{Command: 255, Number: 65535}), requestTold(api.Request{Command: 5, Number: 0x1234, Data: []byte("abc")}), requestTold(api.Request{Command: 8, Data: long}),
		requestTold(api.Request{Command: 0x70, Number: 0x0300, Data: make([]byte, 4)}),
		answerTold(api.Answer{}), answerTold(api.Answer{Status: 65535}), answerTold(api.Answer{Status: 0x9000, Data: []byte("abc")}), answerTold(api.Answer{Status: 0x6abc, Data: long}), answerTold(api.Answer{Status: 0x5000, Data: make([]byte, 5)}),
	}
}

func TestP24_2FirstError(t *testing.T) {
	for _, x := range []struct {
		b    []byte
		a, q api.Errno // of Heard, of Unpack
	}{
		{nil, api.ErrShort, api.ErrShort}, {[]byte{}, api.ErrShort, api.ErrShort},
		{[]byte{0}, api.ErrFrame, api.ErrFrame}, {[]byte{0x51, 1, 2}, api.ErrFrame, api.ErrFrame}, {make([]byte, 5000), api.ErrFrame, api.ErrFrame},
		{[]byte{0x50}, api.ErrFrame, api.ErrShort}, {[]byte{0x70}, api.ErrShort, api.ErrFrame},
		{[]byte{0x50, 0, 0, 0}, api.ErrFrame, api.ErrShort}, {[]byte{0x70, 0, 0}, api.ErrShort, api.ErrFrame},
		{[]byte{0x50, 0, 0, 0, 0}, api.ErrFrame, api.ErrShort}, {[]byte{0x70, 0, 0, 0}, api.ErrShort, api.ErrFrame},
		{append([]byte{0x50, 0, 0, 0, 1}, make([]byte, 4)...), api.ErrFrame, api.ErrShort}, {append([]byte{0x50, 0, 0, 0, 1}, make([]byte, 5)...), api.ErrFrame, api.ErrSum},
		{append([]byte{0x50, 0, 0, 0, 1}, make([]byte, 6)...), api.ErrFrame, api.ErrMore}, {append([]byte{0x70, 0, 0, 1}, make([]byte, 4)...), api.ErrShort, api.ErrFrame},
		{append([]byte{0x70, 0, 0, 1}, make([]byte, 5)...), api.ErrSum, api.ErrFrame}, {append([]byte{0x70, 0, 0, 1}, make([]byte, 6)...), api.ErrMore, api.ErrFrame},
		{append([]byte{0x50, 0, 0, 0, 255}, make([]byte, 258)...), api.ErrFrame, api.ErrShort}, {append([]byte{0x50, 0, 0, 0, 255}, make([]byte, 1<<20)...), api.ErrFrame, api.ErrMore},
	} {
		r, unpacked := talk.Unpack(x.b)
		a, heard := talk.Heard(x.b)
		if unpacked != x.q || heard != x.a || show(r) != show(api.Request{}) || show(a) != show(api.Answer{}) {
			t.Errorf("% .20x: %v, %v; wanted %v, %v", x.b, unpacked, heard, x.q, x.a)
		}
	}
}

func TestP24_2HeldAgainstTheWords(t *testing.T) {
	seen := came{}
	for _, f := range someFrames() {
		isUnpacked(t, f)
		for _, behind := range [][]byte{{0}, {1, 2, 3, 4}, f, make([]byte, 300)} {
			isUnpacked(t, slices.Concat(f, behind))
		}
		for cut := range f {
			isUnpacked(t, f[:cut])
			if cut > 4 {
				isUnpacked(t, summed(f[:cut])) // with a sum that is right
				isUnpacked(t, summed(f[:cut-4]))
			}
		}
	}
	d := dice(1)
	for range 20000 {
		b := bytes.Clone(pick(&d, someFrames()))
		for range d.Below(3) {
			b[d.Below(min(len(b), 6+d.Below(300)))] = byte(d.Below(256) >> d.Below(8))
		}
		switch d.Below(4) {
		case 0:
			b = summed(b[:d.Below(len(b)+1)])
		case 1:
			b = summed(b[:len(b)-4])
		}
		q, a := isUnpacked(t, b)
		seen["unpack "+q.Error()]++
		seen["heard "+a.Error()]++
	}
	for _, why := range []api.Errno{api.OK, api.ErrShort, api.ErrFrame, api.ErrMore, api.ErrSum} {
		seen.isMore(t, 100, "unpack "+why.Error(), "heard "+why.Error())
	}
}

// Every short row of bytes out of some.
func TestP24_2EveryShortFrame(t *testing.T) {
	some := []byte{0, 1, 2, 0x50, 0x70, 255}
	var deep func(b []byte, left int)
	deep = func(b []byte, left int) {
		isUnpacked(t, b)
		isUnpacked(t, summed(b))
		for _, c := range some {
			if left > 0 {
				deep(append(b[:len(b):len(b)], c), left-1)
			}
		}
	}
	deep(nil, 6)
}

func TestP24_3Upload(t *testing.T) {
	for _, size := range []int{1, 2, 3, 254, 255, 256, 257, 510, 511, 4095, 4096} {
		file := make([]byte, size)
		for i := range file {
			file[i] = byte(3*i + size)
		}
		for chunk := 1; chunk <= 255; chunk++ {
			l, why := talk.Upload(file, chunk)
			if why != api.OK || len(l) != 2+(size+chunk-1)/chunk {
				t.Fatal(size, chunk, len(l), why)
			}
			last := len(l) - 1
			if show(l[0]) != show(api.Request{Command: 4, Number: size}) || show(l[last]) != show(api.Request{Command: 6}) {
				t.Fatal(size, chunk, l[0], l[last])
			}
			var got []byte
			for i, r := range l[1:last] {
				if r.Command != 5 || r.Number != len(got) || len(r.Data) != chunk && i+2 != last || len(r.Data) == 0 || len(r.Data) > chunk {
					t.Fatal(size, chunk, i, r)
				}
				got = append(got, r.Data...)
			}
			if !bytes.Equal(got, file) {
				t.Fatal(size, chunk)
			}
		}
	}
}

func TestP24_3UploadRefuses(t *testing.T) {
	for _, file := range [][]byte{nil, {}, {7}, make([]byte, 4096), make([]byte, 4097), make([]byte, 1<<20)} {
		for _, chunk := range numbers() {
			l, why := talk.Upload(file, chunk)
			want := api.OK
			switch {
			case chunk < 1 || chunk > 255:
				want = api.ErrArg
			case len(file) == 0 || len(file) > 4096:
				want = api.ErrLong
			}
			if why != want || want != api.OK && len(l) > 0 || want == api.OK && len(l) < 3 {
				t.Error(len(file), chunk, len(l), why)
			}
		}
	}
}

func TestP24_7ThereAndBack(t *testing.T) {
	d := dice(2)
	for range 20000 {
		data := make([]byte, pick(&d, []int{0, 0, 1, 2, 255, d.Below(256)}))
		for i := range data {
			data[i] = byte(d.Below(256))
		}
		r := api.Request{Command: d.Below(256), Number: d.Below(65536), Data: data}
		b, why := talk.Pack(r)
		if got, e := talk.Unpack(b); why != api.OK || e != api.OK || show(got) != show(r) {
			t.Fatal(r, got, why, e)
		}
		a := api.Answer{Status: d.Below(65536), Data: data}
		b, why = talk.Told(a)
		if got, e := talk.Heard(b); why != api.OK || e != api.OK || show(got) != show(a) {
			t.Fatal(a, got, why, e)
		}
	}
}

func TestP24_8OneByte(t *testing.T) {
	for _, f := range someFrames() {
		whole := map[byte]api.Errno{0x50: api.OK, 0x70: api.ErrFrame}[f[0]]
		if _, why := talk.Unpack(f); why != whole {
			t.Fatal(why)
		}
		for at := range f {
			for turn := 1; turn < 256; turn++ {
				b := bytes.Clone(f)
				b[at] ^= byte(turn)
				_, unpacked := talk.Unpack(b)
				_, heard := talk.Heard(b)
				if f[0] == 0x50 && unpacked == api.OK || f[0] == 0x70 && heard == api.OK {
					t.Fatalf("% .40x: at %d %x is taken", f, at, b[at])
				}
			}
			_, unpacked := talk.Unpack(f[:at])
			_, heard := talk.Heard(f[:at])
			if unpacked == api.OK || heard == api.OK {
				t.Fatal("a beginning is taken", at)
			}
		}
		for more := range 256 {
			_, unpacked := talk.Unpack(append(bytes.Clone(f), byte(more)))
			_, heard := talk.Heard(append(bytes.Clone(f), byte(more), 0))
			if unpacked == api.OK || heard == api.OK {
				t.Fatal("more is taken", more)
			}
		}
	}
}

func TestFramesAreNewMemory(t *testing.T) {
	data := append([]byte("abc"), 5, 5)
	r, a := api.Request{Command: 3, Data: data[:3]}, api.Answer{Status: 3, Data: data[:3]}
	b, _ := talk.Pack(r)
	c, _ := talk.Told(a)
	if !bytes.Equal(data, append([]byte("abc"), 5, 5)) {
		t.Error("Data has changed")
	}
	packed, told := bytes.Clone(b), bytes.Clone(c)
	samples.Overwrite(data, 99)
	if !bytes.Equal(b, packed) || !bytes.Equal(c, told) {
		t.Error("a frame shares its Data")
	}
	behind := append(bytes.Clone(b), 7, 7)
	got, _ := talk.Unpack(behind[:len(b)])
	samples.Overwrite(behind, 99)
	if string(got.Data) != "abc" {
		t.Error("a request shares its frame")
	}
	heard, _ := talk.Heard(c)
	samples.Overwrite(heard.Data, 99)
	if !bytes.Equal(c, told) {
		t.Error("an answer shares its frame")
	}
	one, _ := talk.Unpack(b)
	samples.Overwrite(one.Data, 99)
	if !bytes.Equal(b, packed) {
		t.Error("a request shares its frame")
	}
}

func TestUploadIsNewMemory(t *testing.T) {
	file := append([]byte("abcdefgh"), 5, 5, 5)
	l, _ := talk.Upload(file[:8], 3)
	if !bytes.Equal(file, append([]byte("abcdefgh"), 5, 5, 5)) {
		t.Error("the file has changed")
	}
	samples.Overwrite(file, 99)
	if show(l) != show([]api.Request{{Command: 4, Number: 8}, {Command: 5, Data: []byte("abc")}, {Command: 5, Number: 3, Data: []byte("def")}, {Command: 5, Number: 6, Data: []byte("gh")}, {Command: 6}}) {
		t.Error(l)
	}
	samples.Overwrite(l[1].Data, 99)
	if string(l[2].Data) != "def" || string(l[3].Data) != "gh" {
		t.Error("two chunks share memory", l)
	}
	samples.Overwrite(l[3].Data, 99)
	if string(l[2].Data) != "def" {
		t.Error("two chunks share memory", l)
	}
}
