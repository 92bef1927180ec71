// Package fault is how a reader of texts, trees or files gives up deep within, and is caught at its face. It is no layer; those from 11 on call it.
package fault

import (
	"errors"

	"proviso/api"
)

// GiveUp ends, by panic, the work that Catch does.
func GiveUp(at int, why api.Errno) { panic(api.Fault{At: at, Why: why}) }

// Catch does a work: nil, or the fault with which that gave up.
func Catch(work func()) (err error) {
	defer func() {
		if what := recover(); what != nil {
			err = in(what)
		}
	}()
	work()
	return nil
}

// in is the fault that a panic bore; one that bore none is caught all the same, for no call may panic.
func in(what any) error {
	var f api.Fault
	if e, is := what.(error); is && errors.As(e, &f) {
		return f
	}
	return api.Fault{Why: api.ErrArg}
}
