package module

import (
	"proviso/api"
	"proviso/fault"
	"proviso/wire"
)

// magic is what a file begins with.
const magic = "pvm\x01"

// noParent says in a file that a class has no parent.
const noParent = 255

// Encode is a module's file.
func Encode(m api.Module) ([]byte, api.Errno) {
	if _, why := Check(m); why != api.OK {
		return nil, why
	}
	w := writer{wire.New()}
	if err := fault.Catch(func() { w.file(m) }); err != nil {
		return nil, api.ErrLong // of a module that may be nothing else is refused
	}
	return w.to.Bytes(), api.OK
}

// writer puts a module's parts behind one another; it gives up where the file becomes too long.
type writer struct{ to *wire.Writer }

func (w writer) must(why api.Errno) {
	if why != api.OK {
		fault.GiveUp(w.to.Len(), why)
	}
}

func (w writer) byte(n int) { w.must(w.to.Byte(n)) }

func (w writer) name(s string) { w.must(w.to.Name(s)) }

// long puts how many bytes there are, a word, and these.
func (w writer) long(b []byte) {
	w.must(w.to.Word(len(b)))
	w.must(w.to.Put(b))
}

func (w writer) file(m api.Module) {
	w.must(w.to.Put([]byte(magic)))
	w.name(m.Name)
	w.byte(len(m.Classes))
	for _, c := range m.Classes {
		w.class(c)
	}
	w.byte(len(m.Funcs))
	for _, f := range m.Funcs {
		w.function(f)
	}
	w.certs(m.Certs)
	w.must(w.to.Long(signed(wire.Sum(w.to.Bytes()))))
}

func (w writer) class(c api.Class) {
	w.name(c.Name)
	if c.Parent < 0 {
		w.byte(noParent)
	} else {
		w.byte(c.Parent)
	}
	w.byte(len(c.Fields))
	for _, f := range c.Fields {
		w.name(f.Name)
		w.byte(int(f.Type))
	}
}

func (w writer) function(f api.Func) {
	w.name(f.Name)
	w.byte(len(f.Sig.Params))
	for _, t := range f.Sig.Params {
		w.byte(int(t))
	}
	w.byte(int(f.Sig.Result))
	w.byte(f.Locals)
	w.long(f.Code)
}

func (w writer) certs(l [][]byte) {
	if len(l) == 0 {
		w.byte(0)
		return
	}
	w.byte(1)
	for _, c := range l {
		w.long(c)
	}
}

// signed is the number that has a sum's four bytes, as wire's longs are told.
func signed(sum int) int { return int(int32(sum)) }
