package fault_test

import (
	"errors"
	"testing"

	"proviso/api"
	"proviso/fault"
)

func TestAFaultIsCaughtAsAValue(t *testing.T) {
	err := fault.Catch(func() { fault.GiveUp(7, api.ErrDeep) })
	if f, is := err.(api.Fault); !is || f.At != 7 || f.Why != api.ErrDeep {
		t.Error(err)
	}
	if err := fault.Catch(func() {}); err != nil {
		t.Error(err)
	}
}

func TestAFaultIsFoundInWhatWrapsIt(t *testing.T) {
	err := fault.Catch(func() { panic(api.Trouble{In: "x", Fault: api.Fault{At: 3, Why: api.ErrToken}}) })
	if err != error(api.Fault{At: 3, Why: api.ErrToken}) {
		t.Error(err)
	}
}

func TestWhateverPanickedIsCaught(t *testing.T) {
	var none []int
	for _, work := range []func(){
		func() { panic("words") },
		func() { panic(errors.New("another")) },
		func() { none[len(none)]++ },
	} {
		if err := fault.Catch(work); !errors.Is(err, api.ErrArg) {
			t.Error(err)
		}
	}
}
