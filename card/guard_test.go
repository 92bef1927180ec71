package card

import (
	"runtime"
	"strconv"
	"sync"
	"sync/atomic"
	"testing"
	"time"

	"proviso/api"
	"proviso/infer"
	"proviso/module"
	"proviso/store"
)

// watched is a store that counts how often it was asked while it was being asked.
type watched struct {
	keeper
	busy, overlaps *atomic.Int32
}

func (w watched) asked() func() {
	if w.busy.Add(1) > 1 {
		w.overlaps.Add(1)
	}
	runtime.Gosched() // for others to come in between, if they may
	return func() { w.busy.Add(-1) }
}

func (w watched) Image() []byte {
	defer w.asked()()
	return w.keeper.Image()
}

func (w watched) Names() []string {
	defer w.asked()()
	return w.keeper.Names()
}

func (w watched) Get(name string) ([]byte, api.Errno) {
	defer w.asked()()
	return w.keeper.Get(name)
}

func (w watched) Pack() *store.Store {
	defer w.asked()()
	return w.keeper.Pack()
}

func (w watched) Put(name string, b []byte) ([]api.Write, api.Errno) {
	defer w.asked()()
	return w.keeper.Put(name, b)
}

func (w watched) Drop(name string) ([]api.Write, api.Errno) {
	defer w.asked()()
	return w.keeper.Drop(name)
}

func packaged(t *testing.T, name string) []byte {
	t.Helper()
	m, _, _, _ := infer.Module(api.Module{Name: name, Funcs: []api.Func{{Name: "f", Code: []byte{api.OpReturn}}}})
	b, why := module.Encode(m)
	if why != api.OK {
		t.Fatal(why)
	}
	return b
}

// beside does a work n times at once, and waits for all.
func beside(n int, work func(i int)) {
	var all sync.WaitGroup
	for i := range n {
		all.Go(func() { work(i) })
	}
	all.Wait()
}

func TestOneCallAtATime(t *testing.T) {
	var busy, overlaps atomic.Int32
	c, _ := New(api.MaxQuota)
	c.packages = watched{c.packages, &busy, &overlaps}
	var l [][]byte
	for i := range 16 {
		l = append(l, packaged(t, "k"+strconv.Itoa(i)))
	}
	beside(16, func(i int) {
		name := "k" + strconv.Itoa(i)
		for range 50 {
			c.Install(l[i])
			c.Select(name)
			c.Run("f", nil, 10, 0)
			c.Size(name)
			c.Free()
			c.Names()
			c.Image()
			c.Selected()
			c.Remove(name)
		}
	})
	if n := overlaps.Load(); n > 0 {
		t.Error("asked at once", n)
	}
	if len(c.Names()) > 0 || c.Selected() != "" || c.Free() != api.MaxQuota {
		t.Error(c.Names(), c.Selected(), c.Free())
	}
}

// Whatever comes in between, what an Install has looked at holds when it puts.
func TestP22_11AtOnce(t *testing.T) {
	var l [][]byte
	for i := range 12 {
		l = append(l, packaged(t, "k"+strconv.Itoa(i)))
	}
	size := len(l[0])
	for round := range 100 {
		c, _ := New(5*size + round%size)
		var taken atomic.Int32
		beside(20, func(i int) {
			if _, _, why := c.Install(l[i%10]); why == api.OK {
				taken.Add(1)
			}
			if i == 7 {
				c.Pack()
			}
		})
		if n := int(taken.Load()); n != 5 || len(c.Names()) != 5 || c.Free() != round%size {
			t.Fatal(n, c.Names(), c.Free())
		}
	}
}

// While one call is at work, no other one is.
func TestEachCallWaits(t *testing.T) {
	c, _ := New(1000)
	file := packaged(t, "m")
	calls := []func(){
		func() { c.Image() }, func() { c.Names() }, func() { c.Size("m") }, func() { c.Free() }, func() { c.Pack() },
		func() { c.Install(file) }, func() { c.Remove("m") }, func() { c.Select("m") }, func() { c.Selected() }, func() { c.Run("f", nil, 0, 0) },
	}
	ended := make([]atomic.Bool, len(calls))
	c.guard.Lock()
	var all sync.WaitGroup
	for i, call := range calls {
		all.Go(func() {
			call()
			ended[i].Store(true)
		})
	}
	time.Sleep(50 * time.Millisecond)
	for i := range ended {
		if ended[i].Load() {
			t.Error("it did not wait", i)
		}
	}
	c.guard.Unlock()
	all.Wait()
}

// A call that ends lets the card go, whatever it answered.
func TestTheGuardIsLetGo(t *testing.T) {
	c, _ := New(0)
	for range 3 {
		c.Install(nil)
		c.Install(packaged(t, "m"))
		c.Remove("m")
		c.Remove("")
		c.Select("m")
		c.Run("f", nil, 0, 0)
		c.Size("m")
		c.Pack()
		if !c.guard.TryLock() {
			t.Fatal("held")
		}
		c.guard.Unlock()
	}
}
