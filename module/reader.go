package module

import (
	"errors"

	"proviso/api"
	"proviso/fault"
	"proviso/wire"
)

// sumSize is how many bytes a check sum has.
const sumSize = 4

// Decode is the module of a file: else the place of the fault.
func Decode(b []byte) (api.Module, int, api.Errno) {
	var m api.Module
	var f api.Fault
	if err := fault.Catch(func() { m = decoded(b) }); errors.As(err, &f) {
		return api.Module{}, f.At, f.Why
	}
	return m, 0, api.OK
}

// decoded gives up where there is a fault.
func decoded(b []byte) api.Module {
	if len(b) > api.MaxBytes {
		fault.GiveUp(0, api.ErrLong)
	}
	begins(b)
	end := summed(b)
	r := reader{wire.Over(b[:end]), end}
	r.take(len(magic))
	m := r.module()
	if r.from.End() != api.OK {
		fault.GiveUp(r.from.At(), api.ErrMore)
	}
	if _, why := Check(m); why != api.OK {
		fault.GiveUp(0, why)
	}
	return m
}

func begins(b []byte) {
	for i := range len(magic) {
		if i == len(b) {
			fault.GiveUp(len(b), api.ErrShort)
		}
		if b[i] != magic[i] {
			fault.GiveUp(i, api.ErrMagic)
		}
	}
}

// summed is where the check sum stands, if it is right.
func summed(b []byte) int {
	end := len(b) - sumSize
	if end < len(magic) {
		fault.GiveUp(len(b), api.ErrShort)
	}
	if n, _ := wire.Over(b[end:]).Long(); n != signed(wire.Sum(b[:end])) {
		fault.GiveUp(end, api.ErrSum)
	}
	return end
}

// reader takes a module's parts one behind another, up to an end.
type reader struct {
	from *wire.Reader
	end  int
}

// must gives up, unless all is well: what is missing is missing at the end, wherever it began.
func (r reader) must(why api.Errno) {
	switch why {
	case api.OK:
	case api.ErrShort:
		fault.GiveUp(r.end, why)
	default:
		fault.GiveUp(r.from.At(), why)
	}
}

func (r reader) byte() int {
	n, why := r.from.Byte()
	r.must(why)
	return n
}

func (r reader) name() string {
	s, why := r.from.Name()
	r.must(why)
	return s
}

func (r reader) take(n int) []byte {
	b, why := r.from.Take(n)
	r.must(why)
	return b
}

// long is bytes ahead of which a word says how many.
func (r reader) long() []byte {
	n, why := r.from.Word()
	r.must(why)
	return r.take(n)
}

// count is how many there are, at most so many.
func (r reader) count(most int) int {
	at := r.from.At()
	n := r.byte()
	if n > most {
		fault.GiveUp(at, api.ErrLong)
	}
	return n
}

func (r reader) module() api.Module {
	m := api.Module{Name: r.name()}
	for range r.count(api.MaxClasses) {
		m.Classes = append(m.Classes, r.class())
	}
	for range r.count(api.MaxFuncs) {
		m.Funcs = append(m.Funcs, r.function())
	}
	if r.hasCerts(len(m.Funcs)) {
		for range m.Funcs {
			m.Certs = append(m.Certs, r.long())
		}
	}
	return m
}

func (r reader) class() api.Class {
	c := api.Class{Name: r.name(), Parent: r.byte()}
	if c.Parent == noParent {
		c.Parent = -1
	}
	for range r.count(api.MaxFields) {
		c.Fields = append(c.Fields, api.Field{Name: r.name(), Type: r.typeCode()})
	}
	return c
}

func (r reader) typeCode() api.Type { return api.Type(r.byte()) }

func (r reader) function() api.Func {
	f := api.Func{Name: r.name()}
	for range r.count(api.MaxParams) {
		f.Sig.Params = append(f.Sig.Params, r.typeCode())
	}
	f.Sig.Result = r.typeCode()
	f.Locals = r.byte()
	f.Code = r.long()
	return f
}

// hasCerts is what the byte behind so many functions says; without functions there are none.
func (r reader) hasCerts(funcs int) bool {
	at := r.from.At()
	n := r.byte()
	if n > 1 || n == 1 && funcs == 0 {
		fault.GiveUp(at, api.ErrCerts)
	}
	return n == 1
}
