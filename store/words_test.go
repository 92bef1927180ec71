package store_test

import (
	"maps"
	"slices"

	"proviso/api"
)

// isWord tells whether a text is a name, by the words of DOC.md.
func isWord(s string) bool {
	for i, c := range []byte(s) {
		letter := c >= 'a' && c <= 'z' || c >= 'A' && c <= 'Z'
		if !letter && (i == 0 || c != '_' && (c < '0' || c > '9')) {
			return false
		}
	}
	return len(s) >= 1 && len(s) <= 24
}

// told is what chapter 21 says of an image: what stands under which names, and where the end is; false, if it can't be.
func told(b []byte) (map[string]string, int, bool) {
	stands := map[string]string{}
	if len(b) > 1<<20 {
		return nil, 0, false
	}
	at := 0
	has := func(n int) bool { return at+n <= len(b) }
	for has(1) && b[at] != 0 {
		kind := b[at]
		if kind > 2 || !has(2) || !has(2+int(b[at+1])) {
			return nil, 0, false
		}
		name := string(b[at+2 : at+2+int(b[at+1])])
		if !isWord(name) {
			return nil, 0, false
		}
		at += 2 + len(name)
		if kind == 2 {
			if _, is := stands[name]; !is {
				return nil, 0, false
			}
			delete(stands, name)
			continue
		}
		if !has(2) {
			return nil, 0, false
		}
		n := int(b[at])*256 + int(b[at+1])
		at += 2
		if n > 4096 || !has(n) {
			return nil, 0, false
		}
		stands[name] = string(b[at : at+n])
		at += n
		if len(stands) > 16 {
			return nil, 0, false
		}
	}
	return stands, at, true
}

// model is chapter 21 over again, by its words.
type model struct {
	image  []byte
	stands map[string]string
}

func newModel() *model { return &model{stands: map[string]string{}} }

func (m *model) names() []string { return slices.Sorted(maps.Keys(m.stands)) }

func (m *model) get(name string) ([]byte, api.Errno) {
	b, is := m.stands[name]
	switch {
	case !isWord(name):
		return nil, api.ErrName
	case !is:
		return nil, api.ErrKey
	}
	return []byte(b), api.OK
}

// put answers the record beside the error.
func (m *model) put(name string, b []byte) ([]byte, api.Errno) {
	_, is := m.stands[name]
	switch {
	case !isWord(name):
		return nil, api.ErrName
	case len(b) > 4096:
		return nil, api.ErrLong
	case !is && len(m.stands) == 16:
		return nil, api.ErrFull
	}
	record := kept(name, b...)
	if len(m.image)+len(record)+1 > 1<<20 {
		return nil, api.ErrFull
	}
	m.image, m.stands[name] = append(m.image, record...), string(b)
	return record, api.OK
}

func (m *model) drop(name string) ([]byte, api.Errno) {
	if _, why := m.get(name); why != api.OK {
		return nil, why
	}
	record := dropped(name)
	if len(m.image)+len(record)+1 > 1<<20 {
		return nil, api.ErrFull
	}
	m.image = append(m.image, record...)
	delete(m.stands, name)
	return record, api.OK
}

func (m *model) pack() *model {
	p := newModel()
	for _, name := range m.names() {
		p.put(name, []byte(m.stands[name]))
	}
	return p
}
