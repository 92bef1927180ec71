package talk_test

import (
	"bytes"
	"fmt"
	"slices"
	"testing"

	"proviso/api"
	"proviso/asm"
	"proviso/card"
	"proviso/gen"
	"proviso/infer"
	"proviso/machine"
	"proviso/module"
	"proviso/onepass"
	"proviso/samples"
	"proviso/store"
	"proviso/talk"
)

// twins are two cards that have the same packages, and room for so many bytes.
func twins(t *testing.T, quota int) (*card.Card, *card.Card) {
	t.Helper()
	one, other := newCard(t, quota), newCard(t, quota)
	for _, c := range []*card.Card{one, other} {
		if quota >= 100 {
			put(t, c, small(t, "there"))
			c.Select("there")
		}
	}
	return one, other
}

// isInstalled holds the answer to CmdInstall, and the card, to what card.Install of the file answers on its twin.
func isInstalled(t *testing.T, a api.Answer, c, twin *card.Card, file []byte) {
	t.Helper()
	name, _, why := twin.Install(file)
	status := okay
	if why != api.OK {
		status = failed + int(why)
	}
	if a.Status != status || string(a.Data) != name || state(c) != state(twin) {
		t.Fatalf("%x %q; wanted %x %q", a.Status, a.Data, status, name)
	}
}

// files are some that a card takes, and some that it does not.
func files(t *testing.T) [][]byte {
	t.Helper()
	whole := compiled(t, "whole", runs)
	turned := bytes.Clone(whole)
	turned[40] ^= 1
	m, _, _ := module.Decode(whole)
	m.Certs = nil
	bare, _ := module.Encode(m)
	return [][]byte{small(t, "a"), small(t, "there"), whole, turned, bare, sized(t, "b", 255), sized(t, "b", 256), sized(t, "b", 4096), {7}, make([]byte, 4096), whole[:len(whole)-1], append(bytes.Clone(whole), 0)}
}

func TestP24_9BroughtOver(t *testing.T) {
	for _, file := range files(t) {
		for _, quota := range []int{0, 300, 32768} {
			for chunk := 1; chunk <= 255; chunk++ {
				if chunk > 9 && len(file) < chunk/2 {
					continue
				}
				c, twin := twins(t, quota)
				s := over(t, c)
				l, why := talk.Upload(file, chunk)
				if why != api.OK {
					t.Fatal(why)
				}
				var last api.Answer
				for i, r := range l {
					b, _ := talk.Pack(r)
					last, why = talk.Heard(s.Handle(b))
					if why != api.OK || i+1 < len(l) && last.Status != okay {
						t.Fatal(i, last, why)
					}
				}
				isInstalled(t, last, c, twin, file)
				if s.Waits() != 0 {
					t.Fatal(s.Waits())
				}
			}
		}
	}
}

// between is a frame that has no part in what is brought over: one that Unpack refuses, or one that asks.
func between(d *dice) []byte {
	ask := requestTold(api.Request{Command: pick(d, []int{1, 2, 9}), Number: pick(d, []int{0, 1, d.Below(65536)}), Data: make([]byte, d.Below(4))})
	switch d.Below(6) {
	case 0:
		return ask[:d.Below(len(ask))]
	case 1:
		return append(ask, byte(d.Below(256)))
	case 2:
		b := requestTold(api.Request{Command: d.Below(12), Number: d.Below(9)})
		b[d.Below(len(b))] ^= byte(1 + d.Below(255))
		return b
	case 3:
		return answerTold(api.Answer{Status: okay})
	}
	return ask
}

func TestP24_9WithOthersBetween(t *testing.T) {
	d := dice(1)
	l := files(t)
	for range 600 {
		file, chunk := pick(&d, l), 1+d.Below(255)
		if len(file) > 400 {
			chunk = 40 + d.Below(216)
		}
		c, twin := twins(t, pick(&d, []int{0, 300, 32768}))
		s := over(t, c)
		requests, _ := talk.Upload(file, chunk)
		var last []byte
		for _, r := range requests {
			for range d.Below(4) {
				f := between(&d)
				waits := s.Waits()
				if s.Handle(f); s.Waits() != waits {
					t.Fatalf("% x", f)
				}
			}
			b, _ := talk.Pack(r)
			last = s.Handle(b)
		}
		a, why := talk.Heard(last)
		if why != api.OK {
			t.Fatal(why)
		}
		isInstalled(t, a, c, twin, file)
	}
}

// sent is where a chunk goes on, by its answer.
func sent(t *testing.T, s *talk.Session, at int, data []byte) (int, api.Answer) {
	t.Helper()
	a := asked(t, s, api.Request{Command: api.CmdChunk, Number: at, Data: data})
	if len(a.Data) != 2 || int(a.Data[0])*256+int(a.Data[1]) != s.Waits() {
		t.Fatal(a, s.Waits())
	}
	return s.Waits(), a
}

// A host that sends what the card says it wants, over a line that loses and doubles frames.
func TestP24_10ItGoesOn(t *testing.T) {
	d, seen := dice(2), came{}
	l := files(t)
	for range 600 {
		file := pick(&d, l)
		chunk := max(1+d.Below(255), len(file)/60)
		c, twin := twins(t, 32768)
		s := over(t, c)
		says(t, s, api.CmdBegin, len(file), "", okay)
		for at := 0; s.Waits() < len(file); {
			end := min(at+chunk, len(file))
			next := end // if it was lost, the host does not know
			for range pick(&d, []int{1, 1, 1, 0, 2, 3}) {
				a, waits := api.Answer{}, s.Waits()
				next, a = sent(t, s, at, file[at:end])
				if at == waits && (a.Status != okay || !bytes.Equal(a.Data, two(end))) || at != waits && (a.Status != noPlace || !bytes.Equal(a.Data, two(waits))) {
					t.Fatal(at, waits, a)
				}
				seen[fmt.Sprintf("%x", a.Status)]++
			}
			if next == len(file) && s.Waits() < next { // the last one was lost: an empty one asks
				next, _ = sent(t, s, next, nil)
			}
			at = next
		}
		isInstalled(t, asked(t, s, api.Request{Command: api.CmdInstall}), c, twin, file)
	}
	seen.isMore(t, 300, "9000", "6b00")
}

func TestP24_10InAnyOrder(t *testing.T) {
	file := small(t, "a")
	third := len(file) / 3
	parts := []api.Request{
		{Command: api.CmdChunk, Number: 0, Data: file[:third]}, {Command: api.CmdChunk, Number: third, Data: file[third : 2*third]}, {Command: api.CmdChunk, Number: 2 * third, Data: file[2*third:]},
	}
	for n := range 3 * 3 * 3 * 3 * 3 { // every row of five chunks
		c := newCard(t, 1000)
		s := over(t, c)
		says(t, s, api.CmdBegin, len(file), "", okay)
		next := 0
		for left := n + 243; left > 2; left /= 3 {
			a := asked(t, s, parts[left%3])
			status := noPlace
			if left%3 == next {
				status = okay
				next++
			}
			if place := min(next*third, len(file)); next < 3 && (a.Status != status || !bytes.Equal(a.Data, two(place))) {
				t.Fatal(n, left%3, a)
			}
		}
		for ; next < 3; next++ {
			says(t, s, api.CmdInstall, 0, "", noOrder)
			if a := asked(t, s, parts[next]); a.Status != okay {
				t.Fatal(n, a)
			}
		}
		says(t, s, api.CmdInstall, 0, "", okay, 'a')
	}
}

func TestP24_11NumbersOfARun(t *testing.T) {
	s, c := running(t)
	for _, n := range []int{0, 1, 2, 61, 62, 63, 64, 65, 125, 126, 127, 500, 1022, 1023, 1024, 1025} {
		for _, fuel := range []int{50, 1000, 65535} {
			o, _ := c.Run("tells", []int{n}, fuel, 4096)
			a := asked(t, s, api.Request{Command: api.CmdRun, Number: fuel, Data: []byte(calling("tells", n))})
			if told := toldAll(t, s); !bytes.Equal(a.Data[4:], two(len(o.Told))) || !slices.Equal(told, o.Told) {
				t.Fatal(n, fuel, a, told)
			}
		}
	}
	for _, l := range [][]int{{-1 << 31, 1<<31 - 1, 0, -1, 1, 255, 256, -256, 0x01020304}} {
		source := "fun f() {"
		for _, n := range l {
			source += fmt.Sprint(" tell ", n, ";")
		}
		c := newCard(t, 1000)
		put(t, c, compiled(t, "m", source+" }"))
		c.Select("m")
		s := over(t, c)
		asked(t, s, api.Request{Command: api.CmdRun, Number: 100, Data: []byte(calling("f"))})
		if told := toldAll(t, s); !slices.Equal(told, l) {
			t.Error(told)
		}
	}
}

// world is a session and the chapter told over again side by side, and what may be sent to them.
type world struct {
	d     *dice
	s     *talk.Session
	c     *card.Card
	m     *model
	files [][]byte
	left  []api.Request // of a file that is being brought over
}

func born(t *testing.T, d *dice, l [][]byte) *world {
	t.Helper()
	quota := pick(d, []int{0, 100, 1000, 32768, 32768})
	c, twin := newCard(t, quota), newCard(t, quota)
	if quota == 32768 && d.Below(3) > 0 {
		for _, x := range []*card.Card{c, twin} {
			put(t, x, compiled(t, "whole", runs))
			x.Select("whole")
		}
	}
	return &world{d: d, s: over(t, c), c: c, m: &model{c: twin}, files: l}
}

// some is a request, more often than not one that does something.
func (w *world) some() api.Request {
	d := w.d
	names := []string{"a", "b", "whole", "whole", "there", "m", "", "1"}
	waits := w.s.Waits()
	switch n := d.Below(40); {
	case n < 14:
		if len(w.left) == 0 {
			w.left, _ = talk.Upload(pick(d, w.files), 1+d.Below(255))
		}
		r := w.left[0]
		w.left = w.left[1:]
		return r
	case n < 16:
		return api.Request{Command: api.CmdChunk, Number: max(0, waits+d.Below(5)-2), Data: make([]byte, d.Below(5))}
	case n == 16:
		w.left = nil
		return api.Request{Command: api.CmdBegin, Number: pick(d, []int{0, 1, 2, 3, 4096, 4097})}
	case n == 17:
		return api.Request{Command: pick(d, []int{0, 6, 10, 11, 255}), Number: d.Below(3)}
	case n < 22:
		return api.Request{Command: api.CmdSelect, Data: []byte(pick(d, names))}
	case n == 22:
		return api.Request{Command: api.CmdRemove, Data: []byte(pick(d, names))}
	case n < 26:
		return api.Request{Command: pick(d, []int{api.CmdHello, api.CmdList}), Number: d.Below(4)}
	case n < 30:
		return api.Request{Command: api.CmdTold, Number: pick(d, []int{0, 1, 63, 64, d.Below(200)})}
	case n == 30:
		b := []byte(calling("tells", 3))
		return api.Request{Command: api.CmdRun, Number: 900, Data: b[:d.Below(len(b))]}
	}
	data := calling(pick(d, []string{"f", "tells", "tells", "tells", "add", "over", "fails", "loops", "gone"}))
	for range pick(d, []int{0, 1, 1, 1, 2}) {
		data += string(four(pick(d, []int{0, 1, 7, 100, -1, 1 << 30})))
	}
	return api.Request{Command: api.CmdRun, Number: pick(d, []int{0, 10, 300, 3000}), Data: []byte(data)}
}

func TestP24_5HeldAgainstTheWords(t *testing.T) {
	d, seen := dice(3), came{}
	l := files(t)
	for range 8 {
		l = append(l, compiled(t, "whole", runs), sized(t, "a", 120)) // brought over more often than others
	}
	for range 300 {
		w := born(t, &d, l)
		for range 200 {
			r := w.some()
			f := requestTold(r)
			if d.Below(30) == 0 {
				f[d.Below(len(f))] ^= byte(1 + d.Below(255))
			}
			got, want := w.s.Handle(f), w.m.handle(f)
			if !bytes.Equal(got, want) || w.s.Waits() != w.m.waits() {
				t.Fatalf("% .60x: % .60x, %d; wanted % .60x, %d", f, got, w.s.Waits(), want, w.m.waits())
			}
			if state(w.c) != state(w.m.c) {
				t.Fatalf("% .60x: %.300s; wanted %.300s", f, state(w.c), state(w.m.c))
			}
			seen[fmt.Sprintf("%d %02x%02x", f[1], got[1], got[2])]++
		}
	}
	seen.isMore(t, 20, "1 9000", "2 9000", "2 6b00", "3 9000", "3 6a06", "3 6ad3", "4 9000", "4 6b00", "5 9000", "5 6b00", "5 6985", "6 9000", "6 6985", "6 6adc", "6 6adf", "7 9000", "7 6ad3", "7 6a06",
		"8 9000", "8 6401", "8 64d8", "8 6f00", "8 6a47", "8 6a97", "8 6add", "8 6700", "9 9000", "9 6b00", "10 9000", "11 6d00")
}

// isBrought sends a file by frames: whether the card took it.
func isBrought(t *testing.T, s *talk.Session, file []byte, chunk int) bool {
	t.Helper()
	l, _ := talk.Upload(file, chunk)
	var a api.Answer
	for _, r := range l {
		a = asked(t, s, r)
	}
	return a.Status == okay && len(l) > 0
}

// isRunAs holds a run that is asked by a frame to what came of it elsewhere.
func isRunAs(t *testing.T, s *talk.Session, entry string, args []int, fuel int, o api.Outcome) {
	t.Helper()
	status := map[api.Errno]int{api.OK: okay, api.ErrTrap: trapped + o.Trap, api.ErrFuel: noFuel, api.ErrArgs: failed + 151}[o.Err]
	var data []byte
	if o.Err != api.ErrArgs {
		data = slices.Concat(four(o.Result), two(len(o.Told)))
	}
	if a := asked(t, s, api.Request{Command: api.CmdRun, Number: fuel, Data: []byte(calling(entry, args...))}); status == 0 || a.Status != status || !bytes.Equal(a.Data, data) {
		t.Fatalf("%s %v: %x % x; wanted %x % x, %v", entry, args, a.Status, a.Data, status, data, o)
	}
	if l := toldAll(t, s); !slices.Equal(l, o.Told) {
		t.Fatal(l, o.Told)
	}
}

// P8: a module that was shipped, brought over and installed does what it did; so does one whose code went through asm.
func TestP8BroughtOverItAnswersWhatItDid(t *testing.T) {
	d, brought, seen := dice(4), 0, came{}
	for range 400 {
		m := samples.Module(&d, 1+d.Below(4))
		if c, err := gen.Compile("m", samples.Source(&d, 6)); err == nil && len(c.Funcs) > 0 && d.Below(2) == 0 {
			m, _, _, _ = infer.Module(c)
		}
		sent := m
		sent.Funcs = slices.Clone(m.Funcs)
		for fn, f := range m.Funcs {
			text, _, why := asm.Print(f.Code)
			if why != api.OK {
				continue
			}
			if sent.Funcs[fn].Code, _, why = asm.Parse(text); why != api.OK {
				t.Fatal(why)
			}
		}
		file, why := module.Encode(sent)
		if why != api.OK {
			t.Fatal(why)
		}
		s := over(t, newCard(t, 32768))
		if !isBrought(t, s, file, 1+d.Below(255)) {
			if len(file) <= 4096 {
				t.Fatal("it is not taken")
			}
			continue
		}
		brought++
		says(t, s, api.CmdSelect, 0, m.Name, okay)
		for fn, f := range m.Funcs {
			args, fuel := samples.Args(&d, f.Sig), d.Below(3000)
			o := machine.Guarded(m, fn, args, fuel, 4096)
			isRunAs(t, s, f.Name, args, fuel, o)
			seen[o.Err.Error()]++
		}
	}
	if brought < 300 {
		t.Error("hardly brought over", brought)
	}
	seen.isMore(t, 30, api.OK, api.ErrTrap, api.ErrArgs)
}

// P10: whatever frames a card is sent, what it has passed the one pass, and what it runs is never stuck.
func TestP10ACardRunsNothingUnchecked(t *testing.T) {
	d, taken, refused, ran := dice(5), 0, 0, 0
	for range 3000 {
		c := newCard(t, 32768)
		s := over(t, c)
		file := samples.File(&d)
		l, _ := talk.Upload(file, 20+d.Below(236))
		for _, r := range l {
			for range d.Below(2) {
				s.Handle(between(&d))
			}
			f := requestTold(r)
			if d.Below(40) == 0 { // a byte that is another one, with a sum that is right
				f[1+d.Below(len(f)-5)] = byte(d.Below(256))
				f = summed(f[:len(f)-4])
			}
			s.Handle(f)
		}
		image, _ := store.Open(c.Image())
		for _, name := range c.Names() {
			b, _ := image.Get(name)
			m, _, why := module.Decode(b)
			if why != api.OK || m.Name != name {
				t.Fatal(name, why)
			}
			if _, _, why := onepass.Module(m); why != api.OK {
				t.Fatal(name, why)
			}
			taken++
			says(t, s, api.CmdSelect, 0, name, okay)
			for fn, f := range m.Funcs {
				args, fuel := samples.Args(&d, f.Sig), d.Below(2000)
				isRunAs(t, s, f.Name, args, fuel, machine.Guarded(m, fn, args, fuel, 4096))
				ran++
			}
		}
		if len(c.Names()) == 0 {
			refused++
			says(t, s, api.CmdRun, 999, calling("f0"), failed+221)
		}
	}
	if taken < 500 || refused < 500 || ran < 1000 {
		t.Error("something hardly comes", taken, refused, ran)
	}
}

func TestTheSameAgain(t *testing.T) {
	run := func() string {
		d, text := dice(6), ""
		w := born(t, &d, files(t))
		for range 300 {
			text += fmt.Sprintf("%x ", w.s.Handle(requestTold(w.some())))
		}
		return text
	}
	if run() != run() {
		t.Error("another one")
	}
}
