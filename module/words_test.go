package module_test

import (
	"bytes"
	"hash/crc32"

	"proviso/api"
	"proviso/types"
	"proviso/wire"
)

// fault is chapter 16.1 over again, by its words.
func fault(m api.Module) (int, api.Errno) {
	if !wire.IsName(m.Name) {
		return 0, api.ErrName
	}
	if c, why := types.Check(m.Classes); why != api.OK {
		return c, why
	}
	if len(m.Funcs) > 64 {
		return 64, api.ErrLong
	}
	names := map[string]bool{}
	for i, f := range m.Funcs {
		why := api.OK
		tell := func(is bool, e api.Errno) {
			if is && why == api.OK {
				why = e
			}
		}
		tell(!wire.IsName(f.Name), api.ErrName)
		tell(names[f.Name], api.ErrTwice)
		tell(len(f.Sig.Params) > 8, api.ErrLong)
		for _, t := range f.Sig.Params {
			tell(!stored(m.Classes, t), api.ErrType)
		}
		tell(f.Sig.Result != api.TTop && !stored(m.Classes, f.Sig.Result), api.ErrType)
		tell(f.Locals < len(f.Sig.Params) || f.Locals > 16, api.ErrRange)
		tell(len(f.Code) == 0, api.ErrShort)
		tell(len(f.Code) > 4096, api.ErrLong)
		if why != api.OK {
			return i, why
		}
		names[f.Name] = true
	}
	if len(m.Certs) != 0 && len(m.Certs) != len(m.Funcs) {
		return 0, api.ErrCerts
	}
	for i, c := range m.Certs {
		if len(c) > 65535 {
			return i, api.ErrLong
		}
	}
	return 0, api.OK
}

func stored(l []api.Class, t api.Type) bool {
	switch t {
	case api.TInt, api.TBool, api.TInts, api.TAny:
		return true
	}
	return t >= api.TClass && int(t-api.TClass) < len(l)
}

func named(s string) []byte { return append([]byte{byte(len(s))}, s...) }

func counted(b []byte) []byte { return append([]byte{byte(len(b) / 256), byte(len(b) % 256)}, b...) }

// body is all of a file but its sum, by the words of 16.2.
func body(m api.Module) []byte {
	b := append([]byte{0x70, 0x76, 0x6d, 0x01}, named(m.Name)...)
	b = append(b, byte(len(m.Classes)))
	for _, c := range m.Classes {
		b = append(b, named(c.Name)...)
		b = append(b, byte(c.Parent), byte(len(c.Fields))) // 255 is the byte of -1
		for _, f := range c.Fields {
			b = append(append(b, named(f.Name)...), byte(f.Type))
		}
	}
	b = append(b, byte(len(m.Funcs)))
	for _, f := range m.Funcs {
		b = append(append(b, named(f.Name)...), byte(len(f.Sig.Params)))
		for _, t := range f.Sig.Params {
			b = append(b, byte(t))
		}
		b = append(b, byte(f.Sig.Result), byte(f.Locals))
		b = append(b, counted(f.Code)...)
	}
	if len(m.Certs) == 0 {
		return append(b, 0)
	}
	b = append(b, 1)
	for _, c := range m.Certs {
		b = append(b, counted(c)...)
	}
	return b
}

// summed is bytes with their sum behind them, as the library has it.
func summed(b []byte) []byte {
	n := crc32.ChecksumIEEE(b)
	return append(bytes.Clone(b), byte(n>>24), byte(n>>16), byte(n>>8), byte(n))
}

// walk goes through bytes from the front on, by the words of 16.2; behind the first fault it tells noughts.
type walk struct {
	b   []byte
	at  int
	bad bool
	pos int
	why api.Errno
}

func (w *walk) fail(at int, why api.Errno) {
	if !w.bad {
		w.bad, w.pos, w.why = true, at, why
	}
}

func (w *walk) bytes(n int) []byte {
	if w.bad || len(w.b)-w.at < n {
		w.fail(len(w.b), api.ErrShort)
		return make([]byte, n)
	}
	w.at += n
	return bytes.Clone(w.b[w.at-n : w.at])
}

func (w *walk) byte() int { return int(w.bytes(1)[0]) }

func (w *walk) count(most int) int {
	n := w.byte()
	if n > most {
		w.fail(w.at-1, api.ErrLong)
	}
	if w.bad {
		return 0
	}
	return n
}

func (w *walk) name() string {
	from := w.at
	n := w.byte()
	if n == 0 || n > 24 {
		w.fail(from, api.ErrName)
	}
	if w.bad {
		return ""
	}
	s := string(w.bytes(n))
	if !wire.IsName(s) {
		w.fail(from, api.ErrName)
	}
	return s
}

func (w *walk) counted() []byte {
	n := w.bytes(2)
	return w.bytes(int(n[0])*256 + int(n[1]))
}

func (w *walk) module() api.Module {
	var m api.Module
	m.Name = w.name()
	for n := w.count(32); n > 0; n-- {
		c := api.Class{Name: w.name()}
		c.Parent = w.byte()
		if c.Parent == 255 {
			c.Parent = -1
		}
		for k := w.count(32); k > 0; k-- {
			f := api.Field{Name: w.name()}
			f.Type = api.Type(w.byte())
			c.Fields = append(c.Fields, f)
		}
		m.Classes = append(m.Classes, c)
	}
	for n := w.count(64); n > 0; n-- {
		f := api.Func{Name: w.name()}
		for k := w.count(8); k > 0; k-- {
			f.Sig.Params = append(f.Sig.Params, api.Type(w.byte()))
		}
		f.Sig.Result = api.Type(w.byte())
		f.Locals = w.byte()
		f.Code = w.counted()
		m.Funcs = append(m.Funcs, f)
	}
	certs := w.byte()
	if certs > 1 || certs == 1 && len(m.Funcs) == 0 {
		w.fail(w.at-1, api.ErrCerts)
	}
	for i := 0; i < len(m.Funcs) && certs == 1; i++ {
		m.Certs = append(m.Certs, w.counted())
	}
	if w.at < len(w.b) {
		w.fail(w.at, api.ErrMore)
	}
	return m
}

// read is what Decode answers, by the words of P16.3.
func read(b []byte) (api.Module, int, api.Errno) {
	var none api.Module
	if len(b) > 1<<20 {
		return none, 0, api.ErrLong
	}
	for i, x := range []byte{0x70, 0x76, 0x6d, 0x01} {
		if i >= len(b) {
			return none, len(b), api.ErrShort
		}
		if b[i] != x {
			return none, i, api.ErrMagic
		}
	}
	if len(b) < 8 {
		return none, len(b), api.ErrShort
	}
	end := len(b) - 4
	if !bytes.Equal(summed(b[:end]), b) {
		return none, end, api.ErrSum
	}
	w := &walk{b: b[:end], at: 4}
	m := w.module()
	if w.bad {
		return none, w.pos, w.why
	}
	if _, why := fault(m); why != api.OK {
		return none, 0, why
	}
	return m, 0, api.OK
}
