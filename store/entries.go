package store

import (
	"slices"
	"strings"

	"proviso/api"
)

// entry is a name under which something stands, and from where to where in the image.
type entry struct {
	name     string
	from, to int
}

func (s *Store) bytesOf(e entry) []byte { return s.image[e.from:e.to] }

// find is where among the entries that of a name stands, or would.
func (s *Store) find(name string) (int, bool) {
	return slices.BinarySearchFunc(s.kept, name, func(e entry, name string) int { return strings.Compare(e.name, name) })
}

func (s *Store) has(name string) bool {
	_, is := s.find(name)
	return is
}

// mayKeep tells whether there are not too many names for something to stand under this one.
func (s *Store) mayKeep(name string) bool {
	return s.has(name) || len(s.kept) < api.MaxKeys
}

// keep lets an entry stand, in the place of that of its name.
func (s *Store) keep(e entry) {
	i, is := s.find(e.name)
	if is {
		s.kept[i] = e
		return
	}
	s.kept = slices.Insert(s.kept, i, e)
}

// lose takes the entry of a name away: false, if there is none.
func (s *Store) lose(name string) bool {
	i, is := s.find(name)
	if is {
		s.kept = slices.Delete(s.kept, i, i+1)
	}
	return is
}
