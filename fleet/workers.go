package fleet

import "sync"

// maxWorkers is how many there are at most, however many are asked for.
const maxWorkers = 16

// result is what came of the thing of a number.
type result[T any] struct {
	number int
	what   T
}

// each does n things, so many at a time: what came of them, in their order, whichever was done first.
func each[T any](n, workers int, do func(number int) T) []T {
	waiting, came := make(chan int, n), make(chan result[T], n) // room for all: nobody waits to send
	for i := range n {
		waiting <- i
	}
	close(waiting)
	var joined sync.WaitGroup
	for range min(max(workers, 1), maxWorkers, n) {
		joined.Add(1)
		go func() {
			defer joined.Done()
			for i := range waiting {
				came <- result[T]{i, do(i)}
			}
		}()
	}
	joined.Wait()
	close(came)
	l := make([]T, n)
	for r := range came {
		l[r.number] = r.what
	}
	return l
}
