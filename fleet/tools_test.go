package fleet_test

import (
	"bytes"
	"fmt"
	"math"
	"slices"
	"testing"

	"proviso/api"
	"proviso/card"
	"proviso/fleet"
	"proviso/gen"
	"proviso/infer"
	"proviso/module"
	"proviso/samples"
	"proviso/talk"
)

type dice = samples.Dice

func pick[T any](d *dice, l []T) T { return l[d.Below(len(l))] }

// crews are numbers of workers: below 1, in their range, above it, and more than there are jobs.
var crews = []int{math.MinInt, -1, 0, 1, 2, 3, 7, 15, 16, 17, 64, 65, 1 << 20, math.MaxInt}

// show is all fields of a thing; an empty list is none.
func show(x any) string { return fmt.Sprintf("%+v", x) }

// shipped is the file of a module with its certificates.
func shipped(t *testing.T, m api.Module) []byte {
	t.Helper()
	m, fn, at, why := infer.Module(m)
	if why != api.OK {
		t.Fatal(fn, at, why)
	}
	b, why := module.Encode(m)
	if why != api.OK {
		t.Fatal(why)
	}
	return b
}

// compiled is the package of a source text.
func compiled(t *testing.T, name, source string) []byte {
	t.Helper()
	m, err := gen.Compile(name, source)
	if err != nil {
		t.Fatal(err)
	}
	return shipped(t, m)
}

// sized is a package of n bytes.
func sized(t *testing.T, name string, n int) []byte {
	t.Helper()
	of := func(nops int) []byte {
		return shipped(t, api.Module{Name: name, Funcs: []api.Func{{Name: "f", Code: append(make([]byte, nops), api.OpReturn)}}})
	}
	b := of(n - len(of(0)))
	if len(b) != n {
		t.Fatal(len(b), n)
	}
	return b
}

// small is the least package of a name.
func small(t *testing.T, name string) []byte {
	t.Helper()
	return compiled(t, name, "fun f() { }")
}

// frame is a request's.
func frame(t *testing.T, command, number int, data string) []byte {
	t.Helper()
	b, why := talk.Pack(api.Request{Command: command, Number: number, Data: []byte(data)})
	if why != api.OK {
		t.Fatal(why)
	}
	return b
}

// brings are the frames that bring a file over.
func brings(t *testing.T, file []byte, chunk int) [][]byte {
	t.Helper()
	l, why := talk.Upload(file, chunk)
	if why != api.OK {
		t.Fatal(why)
	}
	var frames [][]byte
	for _, r := range l {
		frames = append(frames, frame(t, r.Command, r.Number, string(r.Data)))
	}
	return frames
}

// calling is the Data of a run.
func calling(name string, args ...int) string {
	text := string([]byte{byte(len(name))}) + name
	for _, n := range args {
		text += string([]byte{byte(n >> 24), byte(n >> 16), byte(n >> 8), byte(n)})
	}
	return text
}

// Chapter 26 over again, by its words, one job behind another.

// doneTold is what P26.1 says of a job.
func doneTold(j api.Job) api.Done {
	c, why := card.New(j.Quota)
	if why != api.OK {
		return api.Done{}
	}
	s, _ := talk.New(c)
	var d api.Done
	for i := range j.Frames {
		d.Answers = append(d.Answers, s.Handle(j.Frames[i]))
	}
	d.Names = c.Names()
	return d
}

// allTold is P26.1.
func allTold(jobs []api.Job) ([]api.Done, api.Errno) {
	if len(jobs) > 64 {
		return nil, api.ErrJobs
	}
	var l []api.Done
	for _, j := range jobs {
		l = append(l, doneTold(j))
	}
	return l, api.OK
}

// rolloutTold is P26.2.
func rolloutTold(file []byte, quotas []int, chunk int) ([]int, api.Errno) {
	requests, why := talk.Upload(file, chunk)
	if why != api.OK {
		return nil, why
	}
	if len(quotas) > 64 {
		return nil, api.ErrJobs
	}
	var l []int
	for _, quota := range quotas {
		l = append(l, 0)
		c, why := card.New(quota)
		if why != api.OK {
			continue
		}
		s, _ := talk.New(c)
		for _, r := range requests {
			f, _ := talk.Pack(r)
			a, _ := talk.Heard(s.Handle(f))
			l[len(l)-1] = a.Status
			if a.Status != 0x9000 {
				break
			}
		}
	}
	return l, api.OK
}

// isAll holds All to the chapter told over again, with so many workers: what it answered.
func isAll(t *testing.T, jobs []api.Job, workers int) ([]api.Done, api.Errno) {
	t.Helper()
	l, why := fleet.All(jobs, workers)
	if want, e := allTold(jobs); show(l) != show(want) || why != e {
		t.Fatalf("%d jobs, %d workers: %.300s, %v; wanted %.300s, %v", len(jobs), workers, show(l), why, show(want), e)
	}
	return l, why
}

// isRollout holds Rollout to the chapter told over again, with so many workers: what it answered.
func isRollout(t *testing.T, file []byte, quotas []int, chunk, workers int) ([]int, api.Errno) {
	t.Helper()
	l, why := fleet.Rollout(file, quotas, chunk, workers)
	if want, e := rolloutTold(file, quotas, chunk); !slices.Equal(l, want) || why != e {
		t.Fatalf("%d bytes, %d, chunks of %d, %d workers: %x, %v; wanted %x, %v", len(file), quotas, chunk, workers, l, why, want, e)
	}
	return l, why
}

// deep is a copy of jobs that shares nothing with them.
func deep(jobs []api.Job) []api.Job {
	var l []api.Job
	for _, j := range jobs {
		c := api.Job{Quota: j.Quota}
		for _, f := range j.Frames {
			c.Frames = append(c.Frames, bytes.Clone(f))
		}
		l = append(l, c)
	}
	return l
}

// came counts what came of something, for a test to tell whether it was tried at all.
type came map[string]int

func (c came) isMore(t *testing.T, n int, words ...string) {
	t.Helper()
	for _, w := range words {
		if c[w] < n {
			t.Error("hardly comes: ", w, c[w])
		}
	}
}
