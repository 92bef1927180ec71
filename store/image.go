package store

import (
	"bytes"

	"proviso/api"
	"proviso/wire"
)

// What a record begins with, or the end.
const (
	ends  = 0
	keeps = 1
	drops = 2
)

func keepingRecord(name string, b []byte) []byte {
	w := wire.New()
	w.Byte(keeps)
	w.Name(name)
	w.Word(len(b))
	w.Put(b)
	return w.Bytes()
}

func droppingRecord(name string) []byte {
	w := wire.New()
	w.Byte(drops)
	w.Name(name)
	return w.Bytes()
}

// Open is the store of an image.
func Open(image []byte) (*Store, api.Errno) {
	if len(image) > api.MaxBytes {
		return nil, api.ErrImage
	}
	s := New()
	r := wire.Over(image)
	for r.Left() > 0 && image[r.At()] != ends {
		if !s.read(r) {
			return nil, api.ErrImage
		}
	}
	s.image = bytes.Clone(image[:r.At()])
	return s, api.OK
}

// read does what the next record says: false, if that is none, or can't stand there.
func (s *Store) read(r *wire.Reader) bool {
	kind, _ := r.Byte()
	name, why := r.Name()
	if why != api.OK {
		return false
	}
	switch kind {
	case keeps:
		return s.readKept(name, r)
	case drops:
		return s.lose(name)
	}
	return false
}

// readKept lets what a record keeps stand under its name, if it may.
func (s *Store) readKept(name string, r *wire.Reader) bool {
	n, why := r.Word()
	if why != api.OK || n > api.MaxStore || !s.mayKeep(name) {
		return false
	}
	from := r.At()
	if _, why := r.Take(n); why != api.OK {
		return false
	}
	s.keep(entry{name, from, from + n})
	return true
}
