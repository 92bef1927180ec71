package wire

import "proviso/api"

// Writer puts bytes one behind another.
type Writer struct {
	bytes []byte
	made  bool // tells one without bytes from a plain Writer{}
}

// New is one that has none.
func New() *Writer { return &Writer{made: true} }

func (w *Writer) isMade() bool { return w != nil && w.made }

// Len is how many bytes there are.
func (w *Writer) Len() int {
	if !w.isMade() {
		return 0
	}
	return len(w.bytes)
}

// Bytes is all of them.
func (w *Writer) Bytes() []byte {
	if !w.isMade() {
		return nil
	}
	return copied(w.bytes)
}

// Byte puts a number of one byte behind.
func (w *Writer) Byte(n int) api.Errno { return w.number(n, byteSize, 0, maxByte) }

// Word puts a number of two bytes behind.
func (w *Writer) Word(n int) api.Errno { return w.number(n, wordSize, 0, maxWord) }

// Long puts a number of four bytes behind, in two's complement.
func (w *Writer) Long(n int) api.Errno { return w.number(n, longSize, minLong, maxLong) }

// Put puts bytes behind.
func (w *Writer) Put(b []byte) api.Errno {
	if !w.isMade() {
		return api.ErrNil
	}
	if len(b) > api.MaxBytes-len(w.bytes) {
		return api.ErrFull
	}
	w.bytes = append(w.bytes, b...)
	return api.OK
}

// Name puts a name behind: a byte that says how long it is, then its bytes.
func (w *Writer) Name(s string) api.Errno {
	if !w.isMade() {
		return api.ErrNil
	}
	if !IsName(s) {
		return api.ErrName
	}
	return w.Put(append([]byte{byte(len(s))}, s...))
}

// Patch puts a word in the place of two bytes that are there.
func (w *Writer) Patch(at, n int) api.Errno {
	if !w.isMade() {
		return api.ErrNil
	}
	if n < 0 || n > maxWord {
		return api.ErrRange
	}
	if at < 0 || at > len(w.bytes)-wordSize {
		return api.ErrArg
	}
	spread(w.bytes[at:at+wordSize], n)
	return api.OK
}

func (w *Writer) number(n, size, least, most int) api.Errno {
	if !w.isMade() {
		return api.ErrNil
	}
	if n < least || n > most {
		return api.ErrRange
	}
	b := make([]byte, size)
	spread(b, n)
	return w.Put(b)
}

// spread lays a number over all of b, its high byte first.
func spread(b []byte, n int) {
	for i := len(b) - 1; i >= 0; i-- {
		b[i] = byte(n)
		n >>= 8
	}
}
