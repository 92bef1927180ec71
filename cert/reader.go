package cert

import (
	"iter"

	"proviso/api"
)

// Reader goes through a certificate's bytes, entry by entry.
type Reader struct {
	bytes         []byte // the head is there in each that Open made: so a plain Reader{} is known by having none
	locals, count int
	at            int // where the next entry begins
	told          int // how many entries were
	ahead         int // the address of the last one
}

// Open is one ahead of the first entry.
func Open(b []byte) (*Reader, api.Errno) {
	r, f := open(b)
	return r, f.Why
}

// open is Open, with the place of the fault.
func open(b []byte) (*Reader, api.Fault) {
	for i := range len(mark) {
		if i == len(b) {
			return nil, short(b)
		}
		if b[i] != mark[i] {
			return nil, api.Fault{At: i, Why: api.ErrHead}
		}
	}
	if len(b) < HeaderBytes {
		return nil, short(b)
	}
	r := &Reader{bytes: b, locals: int(b[localsAt]), count: word(b, countAt), at: HeaderBytes, ahead: none}
	if r.locals > api.MaxLocals {
		return nil, api.Fault{At: localsAt, Why: api.ErrRange}
	}
	if r.count > api.MaxEntries {
		return nil, api.Fault{At: countAt, Why: api.ErrLong}
	}
	return r, api.Fault{}
}

func short(b []byte) api.Fault { return api.Fault{At: len(b), Why: api.ErrShort} }

func word(b []byte, at int) int { return int(b[at])<<8 | int(b[at+1]) }

func (r *Reader) isMade() bool { return r != nil && len(r.bytes) > 0 }

// Locals is how many locals the head says.
func (r *Reader) Locals() int {
	if !r.isMade() {
		return 0
	}
	return r.locals
}

// Count is how many entries the head says.
func (r *Reader) Count() int {
	if !r.isMade() {
		return 0
	}
	return r.count
}

// At is how many bytes were read.
func (r *Reader) At() int {
	if !r.isMade() {
		return 0
	}
	return r.at
}

// Next is the next entry.
func (r *Reader) Next() (api.Entry, bool, api.Errno) {
	if !r.isMade() {
		return api.Entry{}, false, api.ErrNil
	}
	x, is, f := r.next()
	return x, is, f.Why
}

// next is Next, with the place of the fault. At one the reader stays where it is, and so comes upon it again.
func (r *Reader) next() (api.Entry, bool, api.Fault) {
	if r.told == r.count {
		if r.at < len(r.bytes) {
			return api.Entry{}, false, api.Fault{At: r.at, Why: api.ErrMore}
		}
		return api.Entry{}, false, api.Fault{}
	}
	x, end, f := r.entry()
	if f.Why != api.OK {
		return api.Entry{}, false, f
	}
	r.at, r.ahead = end, x.At
	r.told++
	return x, true, api.Fault{}
}

// entries yields the entries that are left, and at last the fault, if there is one.
func (r *Reader) entries() iter.Seq2[api.Entry, api.Fault] {
	return func(yield func(api.Entry, api.Fault) bool) {
		x, is, f := r.next()
		for is && yield(x, f) {
			x, is, f = r.next()
		}
		if !is && f.Why != api.OK {
			yield(x, f)
		}
	}
}

// entry is the one that begins where the reader stands, and the place behind it.
func (r *Reader) entry() (api.Entry, int, api.Fault) {
	kind := r.at + 2
	if len(r.bytes) < kind {
		return api.Entry{}, 0, short(r.bytes)
	}
	x := api.Entry{At: word(r.bytes, r.at)}
	if e := follows(r.ahead, x.At); e != api.OK {
		return api.Entry{}, 0, api.Fault{At: r.at, Why: e}
	}
	if len(r.bytes) == kind {
		return api.Entry{}, 0, short(r.bytes)
	}
	switch r.bytes[kind] {
	case kindDead:
		x.Dead = true
		return x, kind + 1, api.Fault{}
	case kindFrame:
		f, end, fault := r.frame(kind + 1)
		x.Frame = f
		return x, end, fault
	}
	return api.Entry{}, 0, api.Fault{At: kind, Why: api.ErrKind}
}

// frame is the one whose Height stands at a place, and the place behind it.
func (r *Reader) frame(at int) (api.Frame, int, api.Fault) {
	if len(r.bytes) == at {
		return api.Frame{}, 0, short(r.bytes)
	}
	f := api.Frame{Locals: r.locals, Height: int(r.bytes[at])}
	if !hasRoom(f.Locals, f.Height) {
		return api.Frame{}, 0, api.Fault{At: at, Why: api.ErrEntry}
	}
	for i := range f.Locals + f.Height {
		at++
		if len(r.bytes) == at {
			return api.Frame{}, 0, short(r.bytes)
		}
		f.Slots[i] = api.Type(r.bytes[at])
		if !isCode(f.Slots[i]) {
			return api.Frame{}, 0, api.Fault{At: at, Why: api.ErrCode}
		}
	}
	return f, at + 1, api.Fault{}
}
