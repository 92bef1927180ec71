package fleet_test

import (
	"bytes"
	"fmt"
	"math"
	"slices"
	"testing"

	"proviso/api"
	"proviso/fleet"
	"proviso/samples"
	"proviso/talk"
)

func TestExamplesOfChapter26(t *testing.T) {
	l, why := fleet.All(nil, 1)
	if len(l) != 0 || why != api.OK {
		t.Error(l, why)
	}
	hello := [][]byte{frame(t, api.CmdHello, 0, "")}
	l, why = fleet.All([]api.Job{{Quota: 100, Frames: hello}, {Quota: -1, Frames: hello}}, 2)
	if why != api.OK || len(l) != 2 || len(l[0].Answers) != 1 || len(l[0].Names)+len(l[1].Answers)+len(l[1].Names) != 0 {
		t.Error(l, why)
	}
	statuses, why := fleet.Rollout(sized(t, "m", 40), []int{100, 10, -1}, 7, 3)
	if why != api.OK || !slices.Equal(statuses, []int{0x9000, 0x6ade, 0}) {
		t.Errorf("%x, %v", statuses, why)
	}
}

func TestP26_1Answers(t *testing.T) {
	file := compiled(t, "m", "fun add(a int, b int) int { tell a; return a + b; }")
	frames := slices.Concat(brings(t, file, 30), [][]byte{
		frame(t, api.CmdSelect, 0, "m"),
		frame(t, api.CmdRun, 100, calling("add", 3, 4)),
		{1, 2, 3},
		nil,
		frame(t, api.CmdTold, 0, ""),
		frame(t, 99, 0, ""),
		frame(t, api.CmdList, 1, ""),
	})
	want := []int{0x9000, 0x9000, 0x6700, 0x6700, 0x9000, 0x6d00, 0x6b00}
	data := []string{"", "\x00\x00\x00\x07\x00\x01", "", "", "\x00\x00\x00\x03", "", ""}
	for _, workers := range crews {
		l, why := fleet.All([]api.Job{{Quota: 1000, Frames: frames}}, workers)
		if why != api.OK || len(l) != 1 || len(l[0].Answers) != len(frames) || !slices.Equal(l[0].Names, []string{"m"}) {
			t.Fatal(workers, l, why)
		}
		for i, b := range l[0].Answers[len(frames)-len(want):] {
			if a, why := talk.Heard(b); why != api.OK || a.Status != want[i] || string(a.Data) != data[i] {
				t.Errorf("%d: %x % x, %v", i, a.Status, a.Data, why)
			}
		}
	}
}

func TestP26_1Quotas(t *testing.T) {
	file := small(t, "m")
	frames := append(brings(t, file, 255), frame(t, api.CmdHello, 0, ""))
	for _, x := range []struct {
		quota, answers, names int
	}{
		{math.MinInt, 0, 0}, {-1, 0, 0}, {0, 4, 0}, {1, 4, 0}, {len(file) - 1, 4, 0}, {len(file), 4, 1}, {1000, 4, 1}, {32768, 4, 1}, {32769, 0, 0}, {math.MaxInt, 0, 0},
	} {
		l, _ := isAll(t, []api.Job{{Quota: x.quota, Frames: frames}, {Quota: x.quota}}, 2)
		if len(l[0].Answers) != x.answers || len(l[0].Names) != x.names || len(l[1].Answers)+len(l[1].Names) != 0 {
			t.Error(x, l)
		}
	}
}

func TestP26_1NamesAtLast(t *testing.T) {
	frames := slices.Concat(brings(t, small(t, "b"), 9), brings(t, small(t, "a"), 200), brings(t, small(t, "c"), 1), [][]byte{frame(t, api.CmdRemove, 0, "a")}, brings(t, small(t, "d"), 77)[:1])
	for n := range len(frames) + 1 {
		isAll(t, []api.Job{{Quota: 1000, Frames: frames[:n]}}, 1)
	}
	l, _ := fleet.All([]api.Job{{Quota: 1000, Frames: frames}}, 1)
	if !slices.Equal(l[0].Names, []string{"b", "c"}) {
		t.Error(l[0].Names)
	}
}

func TestP26_1MostJobs(t *testing.T) {
	hello := [][]byte{frame(t, api.CmdHello, 0, "")}
	for _, workers := range crews {
		for _, n := range []int{0, 1, 2, 15, 16, 17, 63, 64, 65, 66, 1000} {
			for _, job := range []api.Job{{}, {Quota: 9, Frames: hello}, {Quota: -9, Frames: hello}} {
				l, why := isAll(t, slices.Repeat([]api.Job{job}, n), workers)
				if n > 64 && (len(l) > 0 || why != api.ErrJobs) || n <= 64 && (len(l) != n || why != api.OK) {
					t.Error(n, len(l), why)
				}
			}
		}
	}
	if l, why := fleet.All([]api.Job{}, 0); len(l) > 0 || why != api.OK {
		t.Error(l, why)
	}
	if l, why := fleet.All(make([]api.Job, 1<<20), 5); len(l) > 0 || why != api.ErrJobs {
		t.Error(len(l), why)
	}
}

func TestP26_1FramesThatAreNone(t *testing.T) {
	good := frame(t, api.CmdHello, 0, "")
	for _, f := range [][]byte{nil, {}, {0x50}, good[:len(good)-1], append(bytes.Clone(good), 0), bytes.Repeat([]byte{7}, 1000), make([]byte, 1<<20)} {
		l, _ := isAll(t, []api.Job{{Quota: 50, Frames: [][]byte{f, good, f}}}, 3)
		for i, want := range []int{0x6700, 0x9000, 0x6700} {
			if a, why := talk.Heard(l[0].Answers[i]); why != api.OK || a.Status != want {
				t.Errorf("%.20x: %x, %v", f, a.Status, why)
			}
		}
	}
}

func TestP26_2FirstError(t *testing.T) {
	file := small(t, "m")
	great := make([]byte, 4097)
	many := make([]int, 65)
	for _, workers := range crews {
		for _, quotas := range [][]int{nil, {}, {100}, {-1}, many, make([]int, 1000)} {
			for _, x := range []struct {
				file  []byte
				chunk int
				want  api.Errno
			}{
				{file, 0, api.ErrArg}, {file, -1, api.ErrArg}, {file, 256, api.ErrArg}, {file, math.MinInt, api.ErrArg}, {file, math.MaxInt, api.ErrArg},
				{nil, 0, api.ErrArg}, {great, 256, api.ErrArg},
				{nil, 1, api.ErrLong}, {[]byte{}, 255, api.ErrLong}, {great, 1, api.ErrLong}, {great, 255, api.ErrLong}, {make([]byte, 1<<20), 9, api.ErrLong},
			} {
				if l, why := isRollout(t, x.file, quotas, x.chunk, workers); len(l) > 0 || why != x.want {
					t.Error(len(x.file), x.chunk, l, why)
				}
			}
		}
		for _, chunk := range []int{1, 7, 255} {
			if l, why := isRollout(t, file, many, chunk, workers); len(l) > 0 || why != api.ErrJobs {
				t.Error(l, why)
			}
			if l, why := isRollout(t, file, many[:64], chunk, workers); len(l) != 64 || why != api.OK {
				t.Error(l, why)
			}
			if l, why := isRollout(t, file, nil, chunk, workers); len(l) != 0 || why != api.OK {
				t.Error(l, why)
			}
		}
	}
}

func TestP26_2Statuses(t *testing.T) {
	file := sized(t, "m", 100)
	turned := bytes.Clone(file)
	turned[50] ^= 1
	great := sized(t, "m", 4096)
	for _, x := range []struct {
		file  []byte
		quota int
		want  int
	}{
		{file, 100, 0x9000}, {file, 99, 0x6ade}, {file, 0, 0x6ade}, {file, 32768, 0x9000}, {file, 32769, 0}, {file, -1, 0}, {file, math.MinInt, 0}, {file, math.MaxInt, 0},
		{turned, 1000, 0x6adc}, {turned, 0, 0x6adc}, {turned, -1, 0}, {file[:99], 1000, 0x6adc}, {[]byte{1}, 1000, 0x6adc}, {make([]byte, 4096), 32768, 0x6adc},
		{great, 4096, 0x9000}, {great, 4095, 0x6ade}, {great, 32768, 0x9000},
	} {
		for _, chunk := range []int{1, 2, 9, 99, 100, 101, 254, 255} {
			if l, why := fleet.Rollout(x.file, []int{x.quota}, chunk, 1); why != api.OK || !slices.Equal(l, []int{x.want}) {
				t.Errorf("%d bytes, %d, %d: %x, %v; wanted %x", len(x.file), x.quota, chunk, l, why, x.want)
			}
		}
	}
}

func TestP26_2InTheirOrder(t *testing.T) {
	file := sized(t, "m", 60)
	for _, workers := range crews {
		var quotas, want []int
		for i := range 64 {
			quotas = append(quotas, []int{-1, 59, 60, 1000, 40000}[i*i%5])
			want = append(want, []int{0, 0x6ade, 0x9000, 0x9000, 0}[i*i%5])
			if l, _ := fleet.Rollout(file, quotas, 1+i*4, workers); !slices.Equal(l, want) {
				t.Fatalf("%d: %x", workers, l)
			}
		}
	}
}

// grown is a list with room behind its end that holds something.
func grown[T any](l []T, more ...T) []T {
	all := append(slices.Clone(l), more...)
	return all[:len(l)]
}

func TestWhatIsHandedInStaysAsItWas(t *testing.T) {
	file := compiled(t, "m", "fun tells(n int) { while n > 0 { tell n; n = n - 1; } }")
	jobs := []api.Job{
		{Quota: 1000, Frames: append(brings(t, file, 20), frame(t, api.CmdSelect, 0, "m"), frame(t, api.CmdRun, 9000, calling("tells", 100)), frame(t, api.CmdTold, 0, ""))},
		{Quota: -1, Frames: [][]byte{{1, 2}, nil}},
		{Quota: 10},
	}
	for i := range jobs {
		for k, f := range jobs[i].Frames {
			jobs[i].Frames[k] = grown(f, 9, 8, 7)
		}
		jobs[i].Frames = grown(jobs[i].Frames, []byte{6}, []byte{5})
	}
	jobs = grown(jobs, api.Job{Quota: 77, Frames: [][]byte{{4}}})
	whole := func() string {
		text := show(jobs[:cap(jobs)])
		for _, j := range jobs {
			text += show(j.Frames[:cap(j.Frames)])
			for _, f := range j.Frames {
				text += show(f[:cap(f)])
			}
		}
		return text
	}
	quotas := grown([]int{1000, -1, 20}, 7, 7)
	bytesOf := grown(file, 1, 2, 3)
	ahead, aheadQuotas, aheadBytes := whole(), show(quotas[:cap(quotas)]), show(bytesOf[:cap(bytesOf)])
	for _, workers := range []int{1, 2, 16} {
		fleet.All(jobs, workers)
		fleet.Rollout(bytesOf, quotas, 20, workers)
		if whole() != ahead || show(quotas[:cap(quotas)]) != aheadQuotas || show(bytesOf[:cap(bytesOf)]) != aheadBytes {
			t.Error("it is another one")
		}
	}
}

func TestAnswersAreNewMemory(t *testing.T) {
	hello := frame(t, api.CmdHello, 0, "")
	frames := slices.Concat(brings(t, small(t, "m"), 30), brings(t, small(t, "n"), 30), [][]byte{hello, hello, {1}, hello})
	jobs := []api.Job{{Quota: 1000, Frames: frames}, {Quota: 1000, Frames: frames}, {Quota: 30, Frames: frames}}
	want, _ := allTold(jobs)
	for _, workers := range []int{1, 3} {
		l, _ := fleet.All(jobs, workers)
		other, _ := fleet.All(jobs, workers)
		for i := range l { // each list of an answer is overwritten, and all others must stay
			for k := range l[i].Answers {
				kept := bytes.Clone(l[i].Answers[k])
				samples.Overwrite(l[i].Answers[k], 0xee)
				copy(l[i].Answers[k], kept)
				if show(l) != show(want) {
					t.Fatal(i, k)
				}
			}
		}
		for i := range l {
			for k := range l[i].Answers {
				samples.Overwrite(l[i].Answers[k], 0xee)
			}
			samples.Overwrite(l[i].Names, "x")
			samples.Overwrite(l[i].Answers, []byte{1})
			if rest := l[i+1:]; show(rest) != show(want[i+1:]) {
				t.Fatal(i)
			}
		}
		samples.Overwrite(l, api.Done{})
		again, _ := fleet.All(jobs, workers)
		if show(other) != show(want) || show(again) != show(want) {
			t.Error("it is another one")
		}
	}
	file := small(t, "m")
	quotas := []int{100, 1, -1}
	l, _ := fleet.Rollout(file, quotas, 9, 2)
	samples.Overwrite(l, 7)
	if again, _ := fleet.Rollout(file, quotas, 9, 2); show(again) != fmt.Sprint([]int{0x9000, 0x6ade, 0}) || show(quotas) != "[100 1 -1]" {
		t.Error(again, quotas)
	}
}
