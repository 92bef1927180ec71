package fleet

import (
	"runtime"
	"slices"
	"sync"
	"sync/atomic"
	"testing"
	"time"

	"proviso/api"
	"proviso/talk"
)

// counted is how many of n things were being done at one time at most, by so many workers, if each waits until so many others were begun, or n were.
func counted(t *testing.T, n, workers, wait int) int {
	t.Helper()
	var lock sync.Mutex
	begun, now, most := 0, 0, 0
	enough := make(chan bool)
	l := each(n, workers, func(i int) int {
		lock.Lock()
		begun++
		now++
		most = max(most, now)
		if begun == min(wait, n) {
			close(enough)
		}
		lock.Unlock()
		select {
		case <-enough:
		case <-time.After(10 * time.Second):
			t.Error("they are not done beside one another", n, workers)
		}
		time.Sleep(time.Millisecond / 5)
		lock.Lock()
		now--
		lock.Unlock()
		return i * i
	})
	for i, x := range l {
		if x != i*i {
			t.Error(i, x)
		}
	}
	if len(l) != n || begun != n {
		t.Error(len(l), begun, n)
	}
	return most
}

func TestP26_1SoManyAtOneTime(t *testing.T) {
	for _, n := range []int{0, 1, 2, 5, 16, 17, 64} {
		for workers, want := range map[int]int{-1 << 63: 1, -5: 1, 0: 1, 1: 1, 2: 2, 5: 5, 15: 15, 16: 16, 17: 16, 64: 16, 1<<63 - 1: 16} {
			if most := counted(t, n, workers, want); most != min(want, n) {
				t.Errorf("%d things, %d workers: %d at one time", n, workers, most)
			}
		}
	}
}

// watched is how many goroutines there were at most while a work was going on, besides those that were there and the one that does it.
func watched(work func()) int {
	ahead, most := runtime.NumGoroutine(), 0
	ended := make(chan bool)
	go func() {
		work()
		close(ended)
	}()
	for {
		select {
		case <-ended:
			return most
		case <-time.After(time.Millisecond / 10):
			most = max(most, runtime.NumGoroutine()-ahead-1)
		}
	}
}

// isDoneBy holds a work to the number of goroutines that it is done by; who watches may come too late to see them all, but not each time.
func isDoneBy(t *testing.T, want int, work func()) {
	t.Helper()
	most := 0
	for i := 0; i < 200 && most < want; i++ {
		most = watched(work)
	}
	if most != want {
		t.Error(most, want)
	}
}

func TestP26_1WorkIsGivenToSoMany(t *testing.T) {
	long, _ := talk.Upload(make([]byte, 4096), 1)
	jobs := slices.Repeat([]api.Job{{Quota: 9, Frames: packed(long)}}, 64)
	for workers, want := range map[int]int{-1: 1, 1: 1, 2: 2, 9: 9, 16: 16, 17: 16, 99: 16} {
		isDoneBy(t, want, func() { All(jobs, workers) })
		isDoneBy(t, want, func() { Rollout(make([]byte, 4096), make([]int, 64), 1, workers) })
	}
}

// What is done first plays no part in the order of what is answered.
func TestP26_3WhicheverIsDoneFirst(t *testing.T) {
	for n := range 17 {
		last := make(chan bool)
		l := each(n, 16, func(i int) int { // the first one ends last of all
			if i == n-1 {
				close(last)
			}
			<-last
			for range (n - i) * 10 {
				runtime.Gosched()
			}
			return i
		})
		if !slices.IsSorted(l) || len(l) != n {
			t.Error(l)
		}
	}
}

// Behind a call nobody is at work any more.
func TestAllAreJoined(t *testing.T) {
	var busy atomic.Int32
	for range 200 {
		each(20, 7, func(i int) int {
			busy.Add(1)
			runtime.Gosched()
			busy.Add(-1)
			return i
		})
		if n := busy.Load(); n != 0 {
			t.Fatal(n)
		}
	}
	ahead := runtime.NumGoroutine()
	for range 100 {
		All(make([]api.Job, 64), 16)
		Rollout([]byte{1}, make([]int, 64), 1, 16)
	}
	for i := 0; runtime.NumGoroutine() > ahead; i++ { // one that has said that it is done may have its end ahead of it
		if i > 1000 {
			t.Fatal(runtime.NumGoroutine(), ahead)
		}
		time.Sleep(time.Millisecond)
	}
}
