package step

import (
	"proviso/api"
	"proviso/frames"
	"proviso/types"
)

// canBe tells whether an environment can be.
func canBe(e api.Env) bool {
	if _, why := types.Check(e.Classes); why != api.OK || len(e.Sigs) > api.MaxFuncs || !within(e.Fn, len(e.Sigs)) {
		return false
	}
	for _, s := range e.Sigs {
		if !areOfValues(e.Classes, s.Params...) || s.Result != api.TTop && !areOfValues(e.Classes, s.Result) {
			return false
		}
	}
	return true
}

// areOfValues tells whether these are parameters that a function may have: just those of which there is a frame at its beginning.
func areOfValues(l []api.Class, params ...api.Type) bool {
	_, why := frames.Start(l, params, api.MaxLocals)
	return why == api.OK
}

// within tells whether there is a thing of that number among n.
func within(i, n int) bool { return i >= 0 && i < n }
