package fleet_test

import (
	"bytes"
	"fmt"
	"slices"
	"sync"
	"testing"

	"proviso/api"
	"proviso/card"
	"proviso/fleet"
	"proviso/machine"
	"proviso/module"
	"proviso/onepass"
	"proviso/samples"
	"proviso/talk"
)

const runs = "fun f() { } fun tells(n int) int { while n > 0 { tell n * n; n = n - 1; } return n; } fun over(n int) int { return 7 / n; } fun loops() { while true { } }"

// someFrames are frames as the dice fall: files brought over, runs, and others.
func someFrames(t *testing.T, d *dice, files [][]byte) [][]byte {
	t.Helper()
	var l [][]byte
	if d.Below(2) == 0 {
		l = brings(t, compiled(t, "whole", runs), 20+d.Below(236))
	}
	for range d.Below(7) {
		switch d.Below(8) {
		case 0, 1, 2:
			l = append(l, brings(t, pick(d, files), 20+d.Below(236))...)
		case 3:
			l = append(l, frame(t, 1+d.Below(11), d.Below(3), pick(d, []string{"", "m", "whole"})))
		case 4:
			f := frame(t, api.CmdHello, 0, "")
			f[d.Below(len(f))]++
			l = append(l, f)
		case 5:
			l = append(l, frame(t, api.CmdRemove, 0, pick(d, []string{"m", "whole"})))
		default:
			l = append(l, frame(t, api.CmdSelect, 0, pick(d, []string{"m", "whole", "whole", "whole"})))
			call := pick(d, []string{calling("f"), calling("f", 1), calling("tells", d.Below(60)), calling("tells", 70), calling("over", 0), calling("over", 2), calling("loops")})
			l = append(l, frame(t, api.CmdRun, 1000+d.Below(4000), call), frame(t, api.CmdTold, d.Below(5), ""))
		}
	}
	return l
}

func someJobs(t *testing.T, d *dice, files [][]byte) []api.Job {
	t.Helper()
	var l []api.Job
	for range pick(d, []int{0, 1, 2, 5, 16, 20, 40, 64}) {
		l = append(l, api.Job{Quota: pick(d, []int{-1, 0, 60, 1000, 1000, 32768, 32768, 32769}), Frames: someFrames(t, d, files)})
	}
	return l
}

// kinds are some files that a card takes, and some that it does not.
func kinds(t *testing.T, d *dice) [][]byte {
	t.Helper()
	whole := compiled(t, "whole", runs)
	turned := bytes.Clone(whole)
	turned[len(turned)/2]++
	l := [][]byte{small(t, "m"), whole, whole, turned, whole[:len(whole)-1], {7}, sized(t, "m", 255), sized(t, "m", 4096)}
	for range 4 {
		if f := samples.File(d); len(f) > 0 && len(f) <= 4096 {
			l = append(l, f)
		}
	}
	return l
}

func TestP26_3TheSameWithAnyWorkers(t *testing.T) {
	d, seen := dice(1), came{}
	for range 40 {
		files := kinds(t, &d)
		jobs := someJobs(t, &d, files)
		want, _ := isAll(t, jobs, 1)
		for _, workers := range crews {
			if l, why := fleet.All(jobs, workers); why != api.OK || show(l) != show(want) {
				t.Fatal(workers, why)
			}
		}
		for _, x := range want {
			for _, a := range x.Answers {
				seen[fmt.Sprintf("%x", a[1:3])]++
			}
			seen[fmt.Sprint(len(x.Names))]++
		}
	}
	seen.isMore(t, 10, "9000", "6700", "6adc", "6ade", "6985", "6f00", "6401", "0", "1", "2")
}

func TestP26_3EachJobAsAlone(t *testing.T) {
	d := dice(2)
	for range 40 {
		jobs := someJobs(t, &d, kinds(t, &d))
		l, _ := fleet.All(jobs, 1+d.Below(16))
		for i, j := range jobs {
			alone, why := fleet.All([]api.Job{j}, d.Below(3))
			if why != api.OK || len(alone) != 1 || show(alone[0]) != show(l[i]) {
				t.Fatal(i, why)
			}
		}
	}
}

func TestP26_3RolloutWithAnyWorkers(t *testing.T) {
	d := dice(3)
	for range 25 {
		file := pick(&d, kinds(t, &d))
		var quotas []int
		for range d.Below(65) {
			quotas = append(quotas, pick(&d, []int{-1, 0, len(file) - 1, len(file), 32768, 32769}))
		}
		want, _ := isRollout(t, file, quotas, 1+d.Below(255), 1)
		for _, workers := range crews {
			if l, why := fleet.Rollout(file, quotas, 1+d.Below(255), workers); why != api.OK || !slices.Equal(l, want) {
				t.Fatal(workers, why)
			}
		}
		for i, q := range quotas {
			if l, _ := fleet.Rollout(file, []int{q}, 255, 1); l[0] != want[i] {
				t.Fatal(q, l, want[i])
			}
		}
	}
}

func TestP26_4InAnotherOrder(t *testing.T) {
	d := dice(4)
	for range 60 {
		jobs := someJobs(t, &d, kinds(t, &d))
		l, _ := fleet.All(jobs, 1+d.Below(16))
		moved, want := slices.Clone(jobs), slices.Clone(l)
		for i := range moved {
			k := i + d.Below(len(moved)-i)
			moved[i], moved[k] = moved[k], moved[i]
			want[i], want[k] = want[k], want[i]
		}
		if got, why := fleet.All(moved, 1+d.Below(16)); why != api.OK || show(got) != show(want) {
			t.Fatal(why)
		}
		slices.Reverse(jobs)
		slices.Reverse(l)
		if got, _ := fleet.All(jobs, 7); show(got) != show(l) {
			t.Fatal("reversed they are others")
		}
	}
}

// Jobs that share their frames, in the same memory, have no part in one another.
func TestP26_4TheSameFrames(t *testing.T) {
	frames := append(brings(t, compiled(t, "m", runs), 40), frame(t, api.CmdSelect, 0, "m"), frame(t, api.CmdRun, 60000, calling("tells", 900)), frame(t, api.CmdTold, 63, ""))
	l, _ := fleet.All(slices.Repeat([]api.Job{{Quota: 1000, Frames: frames}}, 64), 16)
	want := doneTold(api.Job{Quota: 1000, Frames: frames})
	for i := range l {
		if show(l[i]) != show(want) {
			t.Fatal(i)
		}
	}
}

func TestP26_5RolledOut(t *testing.T) {
	d, seen := dice(5), came{}
	for range 150 {
		file := pick(&d, kinds(t, &d))
		quotas := []int{-1, 0, 1, len(file) - 1, len(file), len(file) + 1, 1000, 32768, 32769}
		for range 2 {
			l, why := fleet.Rollout(file, quotas, 1+d.Below(255), 1+d.Below(16))
			if why != api.OK {
				t.Fatal(why)
			}
			for i, q := range quotas {
				c, refused := card.New(q)
				if refused != api.OK {
					if l[i] != 0 {
						t.Fatal(q, l[i])
					}
					continue
				}
				_, _, e := c.Install(file)
				if (e == api.OK) != (l[i] == 0x9000) || e != api.OK && l[i] != 0x6a00+int(e) {
					t.Fatal(len(file), q, e, l[i])
				}
				seen[fmt.Sprint(int(e))]++
			}
		}
	}
	seen.isMore(t, 50, "0", "220", "222")
}

func TestP26_5ItDoesNotHangOnChunk(t *testing.T) {
	for _, file := range [][]byte{compiled(t, "m", runs), {1, 2, 3}, make([]byte, 300)} {
		quotas := []int{-1, 10, len(file), 32768}
		want, _ := fleet.Rollout(file, quotas, 255, 2)
		for chunk := 1; chunk <= 255; chunk++ {
			if l, why := fleet.Rollout(file, quotas, chunk, 4); why != api.OK || !slices.Equal(l, want) {
				t.Fatal(chunk, l, why)
			}
		}
	}
}

// P10, P1: whatever frames cards are sent, beside one another, they run only what one pass took: no run is stuck, and each is as the guarded machine has it.
func TestP10CardsRunNothingUnchecked(t *testing.T) {
	d, taken, ran := dice(6), 0, 0
	for range 40 {
		var jobs []api.Job
		var files [][]byte
		for range 64 {
			file := samples.File(&d)
			if len(file) == 0 || len(file) > 4096 {
				file = []byte{1}
			}
			m, _, _ := module.Decode(file)
			frames := append(brings(t, file, 100+d.Below(156)), frame(t, api.CmdSelect, 0, m.Name))
			for _, f := range m.Funcs {
				frames = append(frames, frame(t, api.CmdRun, 500, calling(f.Name)))
			}
			jobs, files = append(jobs, api.Job{Quota: 32768, Frames: frames}), append(files, file)
		}
		l, _ := fleet.All(jobs, 16)
		for i, x := range l {
			m, _, why := module.Decode(files[i])
			_, _, e := onepass.Module(m)
			if is := why == api.OK && e == api.OK; is != (len(x.Names) == 1) {
				t.Fatal(i, is, x.Names)
			}
			for fn := range m.Funcs {
				a, _ := talk.Heard(x.Answers[len(x.Answers)-len(m.Funcs)+fn])
				o := machine.Guarded(m, fn, nil, 500, 4096)
				want := map[api.Errno]int{api.OK: 0x9000, api.ErrTrap: 0x6400 + o.Trap, api.ErrFuel: 0x6f00, api.ErrArgs: 0x6a97}[o.Err]
				if len(x.Names) == 0 {
					want = 0x6add
				}
				if a.Status != want {
					t.Fatalf("%x; wanted %x", a.Status, want)
				}
				ran++
			}
			taken += len(x.Names)
		}
	}
	if taken < 300 || taken > 2200 || ran < 2000 {
		t.Error("something hardly comes", taken, ran)
	}
}

func TestTheSameAgain(t *testing.T) {
	d := dice(7)
	files := kinds(t, &d)
	jobs := someJobs(t, &d, files)
	for len(jobs) < 30 {
		jobs = append(jobs, api.Job{Quota: 1000, Frames: someFrames(t, &d, files)})
	}
	kept := deep(jobs)
	want, _ := allTold(jobs)
	var all sync.WaitGroup
	for i := range 8 { // calls beside one another, over the same jobs
		all.Go(func() {
			for range 3 {
				if l, why := fleet.All(jobs, 1+i); why != api.OK || show(l) != show(want) {
					t.Error("another one")
				}
			}
		})
	}
	all.Wait()
	if show(kept) != show(jobs) {
		t.Error("they were changed")
	}
}
