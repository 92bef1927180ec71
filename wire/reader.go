package wire

import "proviso/api"

// Reader goes through bytes.
type Reader struct {
	bytes []byte
	at    int
	made  bool // tells one without bytes from a plain Reader{}
}

// Over is a reader at the beginning of bytes.
func Over(b []byte) *Reader { return &Reader{bytes: copied(b), made: true} }

func (r *Reader) isMade() bool { return r != nil && r.made }

// At is how many bytes were read.
func (r *Reader) At() int {
	if !r.isMade() {
		return 0
	}
	return r.at
}

// Left is how many bytes are left.
func (r *Reader) Left() int {
	if !r.isMade() {
		return 0
	}
	return len(r.bytes) - r.at
}

// Byte is the number of the next byte.
func (r *Reader) Byte() (int, api.Errno) {
	n, e := r.number(byteSize)
	return int(n), e
}

// Word is the number of the next two bytes.
func (r *Reader) Word() (int, api.Errno) {
	n, e := r.number(wordSize)
	return int(n), e
}

// Long is the number of the next four bytes, in two's complement.
func (r *Reader) Long() (int, api.Errno) {
	n, e := r.number(longSize)
	return int(int32(n)), e
}

// Take is the next n bytes.
func (r *Reader) Take(n int) ([]byte, api.Errno) {
	b, e := r.next(n)
	if e != api.OK {
		return nil, e
	}
	return copied(b), api.OK
}

// Name is a name: a byte that says how long it is, then its bytes.
func (r *Reader) Name() (string, api.Errno) {
	if !r.isMade() {
		return "", api.ErrNil
	}
	ahead := *r // an error behind the first byte must leave r where it was
	n, e := ahead.Byte()
	if e != api.OK {
		return "", e
	}
	if n == 0 || n > api.MaxName {
		return "", api.ErrName
	}
	b, e := ahead.next(n)
	if e != api.OK {
		return "", e
	}
	s := string(b)
	if !IsName(s) {
		return "", api.ErrName
	}
	r.at = ahead.at
	return s, api.OK
}

// Within is a reader of the next n bytes alone; this one goes on behind them.
func (r *Reader) Within(n int) (*Reader, api.Errno) {
	b, e := r.next(n)
	if e != api.OK {
		return nil, e
	}
	return Over(b), api.OK
}

// End tells whether nothing is left.
func (r *Reader) End() api.Errno {
	if !r.isMade() {
		return api.ErrNil
	}
	if r.Left() > 0 {
		return api.ErrMore
	}
	return api.OK
}

// next goes on by n bytes; they are still the reader's own, so nobody outside may get hold of them.
func (r *Reader) next(n int) ([]byte, api.Errno) {
	if !r.isMade() {
		return nil, api.ErrNil
	}
	if n < 0 {
		return nil, api.ErrArg
	}
	if n > r.Left() {
		return nil, api.ErrShort
	}
	from := r.at
	r.at += n
	return r.bytes[from:r.at], api.OK
}

func (r *Reader) number(size int) (uint32, api.Errno) {
	b, e := r.next(size)
	var n uint32
	for _, x := range b {
		n = n<<8 | uint32(x)
	}
	return n, e
}
