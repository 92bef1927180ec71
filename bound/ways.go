package bound

// Functions that call one another, and addresses that go on to one another, are numbers alike, of which a function tells those that follow.

// comeTo is all numbers that are come to from some, these among them; each is asked once.
func comeTo(from []int, follow func(n int) []int) []int {
	var all []int
	was := map[int]struct{}{}
	put := func(some []int) {
		for _, n := range some {
			if _, is := was[n]; !is {
				was[n] = struct{}{}
				all = append(all, n)
			}
		}
	}
	put(from)
	for i := 0; i < len(all); i++ {
		put(follow(all[i]))
	}
	return all
}

// order is all numbers, each ahead of those that follow it; none and false, if one is come to again from itself. What follows one of them is one of them.
func order(all []int, follow func(n int) []int) ([]int, bool) {
	awaited := map[int]int{} // by number: how many that it follows are not in the order yet
	for _, n := range all {
		for _, to := range follow(n) {
			awaited[to]++
		}
	}
	var done []int
	for _, n := range all {
		if awaited[n] == 0 {
			done = append(done, n)
		}
	}
	for i := 0; i < len(done); i++ {
		for _, to := range follow(done[i]) {
			if awaited[to]--; awaited[to] == 0 {
				done = append(done, to)
			}
		}
	}
	if len(done) < len(all) { // those of a ring wait for one another
		return nil, false
	}
	return done, true
}
