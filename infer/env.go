package infer

import (
	"proviso/api"
	"proviso/frames"
	"proviso/types"
)

// May tells whether an environment may be, for a function with so many locals.
func May(e api.Env, locals int) api.Errno {
	_, why := begin(e, locals)
	return why
}

// begin is the frame at a function's beginning; else why the environment, or it, may not be.
func begin(e api.Env, locals int) (api.Frame, api.Errno) {
	if _, why := types.Check(e.Classes); why != api.OK {
		return api.Frame{}, why
	}
	if len(e.Sigs) > api.MaxFuncs {
		return api.Frame{}, api.ErrLong
	}
	for _, s := range e.Sigs {
		if why := checkSig(e.Classes, s); why != api.OK {
			return api.Frame{}, why
		}
	}
	if e.Fn < 0 || e.Fn >= len(e.Sigs) {
		return api.Frame{}, api.ErrFunc
	}
	return frames.Start(e.Classes, e.Sigs[e.Fn].Params, locals)
}

func checkSig(l []api.Class, s api.Sig) api.Errno {
	if len(s.Params) > api.MaxParams {
		return api.ErrLong
	}
	if !areStored(l, s.Params...) || s.Result != api.TTop && !areStored(l, s.Result) {
		return api.ErrType
	}
	return api.OK
}

// areStored tells whether a few types are stored ones: just of these there is a frame at a function's beginning.
func areStored(l []api.Class, few ...api.Type) bool {
	_, why := frames.Start(l, few, api.MaxLocals)
	return why == api.OK
}
