package card

import (
	"proviso/api"
	"proviso/module"
	"proviso/onepass"
)

// packageName is the name of the package that a file is: false, if it is none.
func packageName(file []byte) (string, bool) {
	m, _, why := module.Decode(file)
	if why != api.OK {
		return "", false
	}
	if _, _, why := onepass.Module(m); why != api.OK {
		return "", false
	}
	return m.Name, true
}

// mayHold tells whether a store has nothing but packages under their names, and no more than a card may keep.
func mayHold(s keeper, quota int) api.Errno {
	names := s.Names()
	for _, name := range names {
		file, _ := s.Get(name)
		if is, ok := packageName(file); !ok || is != name {
			return api.ErrPackage
		}
	}
	if len(names) > api.MaxPackages || held(s) > quota {
		return api.ErrQuota
	}
	return api.OK
}

// held is how many bytes a store's packages have together.
func held(s keeper) int {
	n := 0
	for _, name := range s.Names() {
		file, _ := s.Get(name)
		n += len(file)
	}
	return n
}

// mayTake is the name of the package that a file is: else why the card does not take it.
func (c *Card) mayTake(file []byte) (string, api.Errno) {
	if len(file) > api.MaxStore {
		return "", api.ErrLong
	}
	name, is := packageName(file)
	if !is {
		return "", api.ErrPackage
	}
	if _, why := c.packages.Get(name); why == api.OK {
		return "", api.ErrThere
	}
	if len(c.packages.Names()) >= api.MaxPackages {
		return "", api.ErrFull
	}
	if len(file) > c.quota-held(c.packages) {
		return "", api.ErrQuota
	}
	return name, api.OK
}
