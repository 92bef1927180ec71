package check_test

import (
	"testing"

	"proviso/api"
	"proviso/parse"
	"proviso/samples"
)

func TestP12_1WhatIsPutIn(t *testing.T) {
	d := dice(1)
	for i := range 3000 {
		src := samples.Source(&d, 1+i%12)
		if f := isLooked(t, src); f != (api.Fault{}) {
			t.Fatalf("%s\n%v", src, f)
		}
	}
}

func TestP12_1TheFirstFault(t *testing.T) {
	d, came := dice(2), map[api.Errno]int{}
	for i := range 12000 {
		p := parsed(t, samples.Source(&d, 1+i%8))
		for range 1 + d.Below(4) {
			p = bent(&d, p)
		}
		if src := parse.Print(p); src != "" {
			came[isLooked(t, src).Why]++
		}
	}
	for _, why := range []api.Errno{api.OK, api.ErrRange, api.ErrTwice, api.ErrParent, api.ErrUnknown, api.ErrMust, api.ErrCount, api.ErrPlace, api.ErrEnd} {
		if came[why] < 20 {
			t.Error(why, came)
		}
	}
}
