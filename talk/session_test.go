package talk_test

import (
	"bytes"
	"math"
	"slices"
	"strings"
	"testing"

	"proviso/api"
	"proviso/card"
	"proviso/samples"
	"proviso/talk"
)

const (
	okay      = 0x9000
	badFrame  = 0x6700
	noCommand = 0x6d00
	noOrder   = 0x6985
	noPlace   = 0x6b00
	noFuel    = 0x6f00
	trapped   = 0x6400
	failed    = 0x6a00
)

func TestP24_4New(t *testing.T) {
	if s, why := talk.New(nil); s != nil || why != api.ErrNil {
		t.Error(s, why)
	}
	s := over(t, newCard(t, 100))
	if s.Waits() != 0 {
		t.Error(s.Waits())
	}
	says(t, s, api.CmdTold, 0, "", okay)
	says(t, s, api.CmdTold, 1, "", noPlace)
	says(t, s, api.CmdInstall, 0, "", noOrder)
	says(t, s, api.CmdChunk, 0, "a", noOrder)
	says(t, s, api.CmdHello, 0, "", okay, 0)
}

// A card that no call made is a card: what it answers is told.
func TestP24_4OverACardThatNoCallMade(t *testing.T) {
	s := over(t, &card.Card{})
	says(t, s, api.CmdHello, 0, "", okay, 0)
	says(t, s, api.CmdList, 0, "", noPlace)
	says(t, s, api.CmdSelect, 0, "m", failed+8)
	says(t, s, api.CmdRemove, 0, "m", failed+8)
	says(t, s, api.CmdRun, 9, calling("f"), failed+8)
	says(t, s, api.CmdBegin, 1, "", okay)
	says(t, s, api.CmdChunk, 0, "a", okay, 0, 1)
	says(t, s, api.CmdInstall, 0, "", failed+8)
	says(t, s, api.CmdStop, 0, "", okay)
}

func TestP24_4OverACardWithPackages(t *testing.T) {
	c := newCard(t, 1000)
	put(t, c, small(t, "b"), small(t, "a"))
	c.Select("b")
	s := over(t, c)
	says(t, s, api.CmdHello, 0, "", okay, 2, 'b')
	put(t, c, small(t, "c")) // what is done to the card is told
	says(t, s, api.CmdHello, 0, "", okay, 3, 'b')
	c.Remove("b")
	says(t, s, api.CmdHello, 0, "", okay, 2)
}

func TestP24_4Waits(t *testing.T) {
	s := over(t, newCard(t, 1000))
	isWaits := func(want int) {
		t.Helper()
		if s.Waits() != want || s.Waits() != want {
			t.Error(s.Waits(), want)
		}
	}
	says(t, s, api.CmdBegin, 5, "", okay)
	isWaits(0)
	says(t, s, api.CmdChunk, 0, "abc", okay, 0, 3)
	isWaits(3)
	says(t, s, api.CmdChunk, 3, "", okay, 0, 3)
	isWaits(3)
	says(t, s, api.CmdChunk, 3, "abc", noPlace, 0, 3)
	isWaits(3)
	says(t, s, api.CmdChunk, 3, "de", okay, 0, 5)
	isWaits(5)
	says(t, s, api.CmdInstall, 0, "", failed+220)
	isWaits(0)
	says(t, s, api.CmdBegin, 5, "", okay)
	says(t, s, api.CmdChunk, 0, "ab", okay, 0, 2)
	says(t, s, api.CmdBegin, 3, "", okay)
	isWaits(0)
	says(t, s, api.CmdChunk, 0, "ab", okay, 0, 2)
	says(t, s, api.CmdStop, 0, "", okay)
	isWaits(0)
}

func TestP24_5WhatIsNoFrame(t *testing.T) {
	s, c := running(t)
	says(t, s, api.CmdRun, 999, calling("tells", 3), okay, 0, 0, 0, 3, 0, 3)
	says(t, s, api.CmdBegin, 9, "", okay)
	says(t, s, api.CmdChunk, 0, "abc", okay, 0, 3)
	was := state(c)
	want := answerTold(api.Answer{Status: badFrame})
	for _, command := range []int{0, 1, 2, 3, 4, 5, 6, 7, 8, 9, 10, 11, 255} {
		f := requestTold(api.Request{Command: command, Number: 3, Data: []byte("d")})
		bad := [][]byte{nil, {}, make([]byte, 9), make([]byte, 5000), append(bytes.Clone(f), 0), slices.Concat(f, f), answerTold(api.Answer{Status: okay})}
		for at := range f {
			b := bytes.Clone(f)
			b[at] ^= 1 << (at % 8)
			bad = append(bad, f[:at], b)
		}
		for _, b := range bad {
			if got := s.Handle(b); !bytes.Equal(got, want) {
				t.Fatalf("% .40x: % x", b, got)
			}
		}
	}
	if state(c) != was || s.Waits() != 3 || !slices.Equal(toldAll(t, s), squares(3)) {
		t.Error("something has changed")
	}
}

func TestP24_5WhatIsNoCommand(t *testing.T) {
	s, c := running(t)
	says(t, s, api.CmdRun, 999, calling("tells", 3), okay, 0, 0, 0, 3, 0, 3)
	says(t, s, api.CmdBegin, 9, "", okay)
	says(t, s, api.CmdChunk, 0, "abc", okay, 0, 3)
	was := state(c)
	for command := range 256 {
		if command >= 1 && command <= 10 {
			continue
		}
		says(t, s, command, 0, "", noCommand)
		says(t, s, command, 3, "d", noCommand)
		says(t, s, command, 65535, strings.Repeat("m", 255), noCommand)
	}
	if state(c) != was || s.Waits() != 3 || !slices.Equal(toldAll(t, s), squares(3)) {
		t.Error("something has changed")
	}
}

func TestP24_5HelloAndList(t *testing.T) {
	c := newCard(t, 32768)
	s := over(t, c)
	names := []string{"Z", "a", "a_", "b", "k1", strings.Repeat("n", 24), "x", "y"}
	for i := range names { // they come in another order than the one in which they are told
		put(t, c, small(t, names[(3*i+5)%8]))
		says(t, s, api.CmdHello, 0, "", okay, byte(i+1))
	}
	for i, name := range names {
		says(t, s, api.CmdList, i, "", okay, []byte(name)...)
		says(t, s, api.CmdList, i, "plays no part", okay, []byte(name)...)
	}
	for _, n := range []int{8, 9, 255, 256, 65535} {
		says(t, s, api.CmdList, n, "", noPlace)
		says(t, s, api.CmdHello, n, "plays no part", okay, 8)
	}
	for _, name := range names {
		says(t, s, api.CmdSelect, 0, name, okay)
		says(t, s, api.CmdHello, 7, "", okay, append([]byte{8}, name...)...)
	}
	says(t, s, api.CmdRemove, 0, "y", okay)
	says(t, s, api.CmdHello, 0, "", okay, 7)
	says(t, s, api.CmdList, 7, "", noPlace)
	says(t, s, api.CmdList, 6, "", okay, 'x')
}

func TestP24_5Select(t *testing.T) {
	c := newCard(t, 1000)
	put(t, c, small(t, "a"), small(t, "b"))
	s := over(t, c)
	says(t, s, api.CmdSelect, 9, "b", okay)
	if c.Selected() != "b" {
		t.Error(c.Selected())
	}
	for _, name := range noNames() {
		says(t, s, api.CmdSelect, 0, name, failed+6)
	}
	says(t, s, api.CmdSelect, 0, "c", failed+211)
	says(t, s, api.CmdSelect, 0, "A", failed+211)
	if c.Selected() != "b" {
		t.Error(c.Selected())
	}
}

func TestP24_5Remove(t *testing.T) {
	c := newCard(t, 1000)
	put(t, c, small(t, "a"), small(t, "b"))
	c.Select("a")
	s := over(t, c)
	was := state(c)
	for _, name := range noNames() {
		says(t, s, api.CmdRemove, 0, name, failed+6)
	}
	says(t, s, api.CmdRemove, 0, "c", failed+211)
	if state(c) != was {
		t.Error("something has changed")
	}
	says(t, s, api.CmdRemove, 9, "a", okay)
	if c.Selected() != "" || !slices.Equal(c.Names(), []string{"b"}) {
		t.Error(state(c))
	}
	says(t, s, api.CmdRemove, 0, "a", failed+211)
}

func TestP24_5Begin(t *testing.T) {
	s := over(t, newCard(t, 1000))
	for _, n := range []int{0, 4097, 4098, 8192, 65535} {
		says(t, s, api.CmdBegin, n, "", noPlace)
		says(t, s, api.CmdChunk, 0, "", noOrder)
	}
	says(t, s, api.CmdBegin, 3, "", okay)
	says(t, s, api.CmdChunk, 0, "ab", okay, 0, 2)
	for _, n := range []int{0, 4097, 65535} { // what is refused changes nothing
		says(t, s, api.CmdBegin, n, "", noPlace)
		says(t, s, api.CmdChunk, 2, "", okay, 0, 2)
	}
	for _, n := range []int{1, 2, 255, 256, 4095, 4096} { // one ahead is forgotten
		says(t, s, api.CmdBegin, n, "plays no part", okay)
		says(t, s, api.CmdChunk, 0, "", okay, 0, 0)
		says(t, s, api.CmdInstall, 0, "", noOrder)
		says(t, s, api.CmdChunk, 0, "a", okay, 0, 1)
	}
}

func TestP24_5Chunk(t *testing.T) {
	s := over(t, newCard(t, 1000))
	says(t, s, api.CmdChunk, 0, "", noOrder)
	says(t, s, api.CmdChunk, 1, "a", noOrder)
	says(t, s, api.CmdBegin, 10, "", okay)
	says(t, s, api.CmdChunk, 1, "a", noPlace, 0, 0)
	says(t, s, api.CmdChunk, 65535, "", noPlace, 0, 0)
	says(t, s, api.CmdChunk, 0, strings.Repeat("a", 11), noPlace, 0, 0)
	says(t, s, api.CmdChunk, 0, "", okay, 0, 0)
	says(t, s, api.CmdChunk, 0, "abcd", okay, 0, 4)
	for _, n := range []int{0, 3, 5, 260, 65535} {
		says(t, s, api.CmdChunk, n, "e", noPlace, 0, 4)
		says(t, s, api.CmdChunk, n, "", noPlace, 0, 4)
	}
	says(t, s, api.CmdChunk, 4, "efghijk", noPlace, 0, 4)
	says(t, s, api.CmdChunk, 4, "efghij", okay, 0, 10)
	says(t, s, api.CmdChunk, 10, "k", noPlace, 0, 10)
	says(t, s, api.CmdChunk, 10, "", okay, 0, 10)
	says(t, s, api.CmdBegin, 1, "", okay)
	says(t, s, api.CmdChunk, 0, "ab", noPlace, 0, 0)
	says(t, s, api.CmdChunk, 0, "a", okay, 0, 1)
	says(t, s, api.CmdBegin, 4096, "", okay)
	for n := 0; n < 4096; {
		size := min(255, 4096-n)
		says(t, s, api.CmdChunk, n, strings.Repeat("x", size), okay, two(n+size)...)
		n += size
	}
	says(t, s, api.CmdChunk, 4096, "x", noPlace, 16, 0)
}

func TestP24_5Install(t *testing.T) {
	c := newCard(t, 100)
	s := over(t, c)
	bring := func(file []byte) {
		t.Helper()
		says(t, s, api.CmdBegin, len(file), "", okay)
		for at := 0; at < len(file); at += 100 {
			end := min(at+100, len(file))
			says(t, s, api.CmdInstall, 0, "", noOrder) // not all of it was brought
			says(t, s, api.CmdChunk, at, string(file[at:end]), okay, two(end)...)
		}
	}
	a := sized(t, "a", 60)
	bring(a)
	says(t, s, api.CmdInstall, 77, "plays no part", okay, 'a')
	says(t, s, api.CmdInstall, 0, "", noOrder)
	says(t, s, api.CmdChunk, 60, "", noOrder)
	if !slices.Equal(c.Names(), []string{"a"}) || c.Free() != 40 || c.Selected() != "" {
		t.Error(state(c))
	}
	was := state(c)
	for _, x := range []struct {
		file []byte
		why  int
	}{{a, 223}, {small(t, "a"), 223}, {sized(t, "b", 41), 222}, {sized(t, "b", 4096), 222}, {[]byte("abc"), 220}, {make([]byte, 4096), 220}, {a[:59], 220}, {append(bytes.Clone(a), 0), 220}} {
		bring(x.file)
		says(t, s, api.CmdInstall, 0, "", failed+x.why)
		says(t, s, api.CmdInstall, 0, "", noOrder) // it is forgotten, refused or not
		if state(c) != was || s.Waits() != 0 {
			t.Error("something has changed", x.why)
		}
	}
	bring(sized(t, "b", 40))
	says(t, s, api.CmdInstall, 0, "", okay, 'b')
	name := strings.Repeat("n", 24)
	c = newCard(t, 32768)
	s = over(t, c)
	bring(sized(t, name, 4096))
	says(t, s, api.CmdInstall, 0, "", okay, []byte(name)...)
	for i := range 7 {
		put(t, c, small(t, string(rune('a'+i))))
	}
	bring(small(t, "z"))
	says(t, s, api.CmdInstall, 0, "", failed+7)
}

func TestP24_5Run(t *testing.T) {
	s, _ := running(t)
	ran := func(data string, fuel, status, result, told int) {
		t.Helper()
		says(t, s, api.CmdRun, fuel, data, status, slices.Concat(four(result), two(told))...)
	}
	ran(calling("add", 2, 3), 100, okay, 5, 0)
	ran(calling("add", math.MaxInt32, 1), 100, okay, math.MinInt32, 0)
	ran(calling("add", -1, -2), 100, okay, -3, 0)
	for _, n := range []int{0, 1, -1, 255, 256, 0x01020304, -0x01020304, math.MaxInt32, math.MinInt32} {
		ran(calling("same", n), 100, okay, n, 0)
	}
	ran(calling("turn", 0), 100, okay, 1, 0)
	ran(calling("turn", 1), 100, okay, 0, 0)
	ran(calling("nothing"), 100, okay, 0, 0)
	ran(calling("makes"), 100, okay, 2, 0)
	ran(calling("over", 7), 100, okay, 1, 1)
	ran(calling("over", 0), 100, trapped+1, 0, 1)
	ran(calling("fails"), 100, trapped+16+200, 0, 2)
	ran(calling("great"), 100, okay, 1, 0) // the room is MaxRoom
	ran(calling("greater"), 100, trapped+6, 0, 0)
	ran(calling("tells", 1024), 65535, okay, 1024, 1024)
	ran(calling("tells", 1025), 65535, trapped+8, 0, 1024)
	ran(calling("loops"), 65535, trapped+8, 0, 1024)
	ran(calling("loops"), 19, noFuel, 0, 4)
	ran(calling("same", 7), 0, noFuel, 0, 0)
	ran(calling("same", 7), 1, noFuel, 0, 0)
	ran(calling("same", 7), 2, okay, 7, 0)
}

func TestP24_5TheGreatestTrap(t *testing.T) {
	c := newCard(t, 1000)
	put(t, c, shipped(t, api.Module{Name: "m", Funcs: []api.Func{{Name: "f", Code: []byte{api.OpTrap, 255}}}}))
	c.Select("m")
	says(t, over(t, c), api.CmdRun, 9, calling("f"), trapped+16+255, make([]byte, 6)...)
}

func TestP24_5RunsFuelIsTheNumber(t *testing.T) {
	s, c := running(t)
	for _, fuel := range []int{0, 1, 5, 100, 255, 256, 257, 4000, 65535} {
		o, why := c.Run("tells", []int{9999}, fuel, 4096)
		if why != api.OK || o.Err != api.ErrFuel && o.Err != api.ErrTrap {
			t.Fatal(o, why)
		}
		status := noFuel
		if o.Err == api.ErrTrap {
			status = trapped + 8
		}
		says(t, s, api.CmdRun, fuel, calling("tells", 9999), status, slices.Concat(four(0), two(len(o.Told)))...)
		if !slices.Equal(toldAll(t, s), o.Told) {
			t.Error(fuel)
		}
	}
}

func TestP24_5WhatIsNoCall(t *testing.T) {
	s, c := running(t)
	whole := calling("tells", 3)
	says(t, s, api.CmdRun, 999, whole, okay, 0, 0, 0, 3, 0, 3)
	bad := []string{"", "\x00", "\x01", "\x011", "\x19" + strings.Repeat("n", 25), "\xff" + strings.Repeat("n", 254), "\x02f-", "\x02_f", "f", calling("") + "f", calling("a b"), calling("f\x00")}
	for _, name := range noNames() {
		if len(name) < 255 {
			bad = append(bad, string([]byte{byte(len(name))})+name)
		}
	}
	for cut := range len(whole) {
		if cut != len(whole)-4 {
			bad = append(bad, whole[:cut])
		}
	}
	for more := 1; more < 9; more++ {
		if more%4 != 0 {
			bad = append(bad, whole+strings.Repeat("\x00", more))
		}
	}
	for _, selected := range []bool{true, false} { // ahead of what a card answers
		for _, data := range bad {
			says(t, s, api.CmdRun, 999, data, badFrame)
		}
		if !slices.Equal(toldAll(t, s), squares(3)) {
			t.Error("what was told is gone")
		}
		if selected {
			c.Remove("m")
		}
	}
}

func TestP24_5WhatACardDoesNotRun(t *testing.T) {
	s, c := running(t)
	put(t, c, small(t, "n"))
	says(t, s, api.CmdRun, 999, calling("tells", 3), okay, 0, 0, 0, 3, 0, 3)
	isKept := func(n int) {
		t.Helper()
		if !slices.Equal(toldAll(t, s), squares(n)) {
			t.Error(toldAll(t, s))
		}
	}
	says(t, s, api.CmdRun, 999, calling("gone"), failed+71)
	says(t, s, api.CmdRun, 999, calling(strings.Repeat("n", 24), make([]int, 57)...), failed+71)
	isKept(3)
	for _, data := range []string{calling("add", 1), calling("add", 1, 2, 3), calling("add"), calling("turn", 2), calling("turn", -1), calling("takes", 0), calling("takes", 1), calling("same", make([]int, 60)...)} {
		says(t, s, api.CmdRun, 999, data, failed+151) // and nothing is kept as told any more
		isKept(0)
		says(t, s, api.CmdTold, 1, "", noPlace)
		says(t, s, api.CmdRun, 999, calling("tells", 2), okay, 0, 0, 0, 2, 0, 2)
		isKept(2)
	}
	says(t, s, api.CmdSelect, 0, "n", okay)
	says(t, s, api.CmdRun, 999, calling("tells", 3), failed+71)
	says(t, s, api.CmdRemove, 0, "n", okay)
	says(t, s, api.CmdRun, 999, calling("f"), failed+221)
	isKept(2)
}

func TestP24_5Told(t *testing.T) {
	s, _ := running(t)
	for _, n := range []int{0, 1, 2, 62, 63, 64, 65, 126, 127, 1023, 1024} {
		says(t, s, api.CmdRun, 65535, calling("tells", n), okay, slices.Concat(four(n), two(n))...)
		for from := range n + 1 {
			var want []byte
			for _, x := range squares(n)[from:min(from+63, n)] {
				want = append(want, four(x)...)
			}
			says(t, s, api.CmdTold, from, "plays no part", okay, want...)
		}
		for _, from := range []int{n + 1, n + 2, n + 63, 65535} {
			says(t, s, api.CmdTold, from, "", noPlace)
		}
	}
}

func TestP24_5WhatIsKeptAsTold(t *testing.T) {
	s, c := running(t)
	says(t, s, api.CmdRun, 999, calling("tells", 4), okay, 0, 0, 0, 4, 0, 4)
	file := small(t, "b")
	for _, r := range []api.Request{
		{Command: api.CmdHello}, {Command: api.CmdList}, {Command: api.CmdSelect, Data: []byte("m")}, {Command: api.CmdSelect}, {Command: api.CmdBegin, Number: len(file)}, {Command: api.CmdChunk, Data: file}, {Command: api.CmdInstall},
		{Command: api.CmdBegin}, {Command: api.CmdChunk}, {Command: api.CmdInstall}, {Command: api.CmdRemove, Data: []byte("b")}, {Command: api.CmdRemove, Data: []byte("m")}, {Command: api.CmdRun, Data: []byte(calling("f"))}, {Command: api.CmdRun}, {Command: api.CmdTold, Number: 9}, {Command: 11},
	} {
		asked(t, s, r)
		if !slices.Equal(toldAll(t, s), squares(4)) {
			t.Error("it is gone behind", r)
		}
	}
	if len(c.Names()) > 0 {
		t.Error(state(c))
	}
	put(t, c, compiled(t, "m", runs))
	c.Select("m")
	says(t, s, api.CmdRun, 999, calling("fails"), trapped+16+200, 0, 0, 0, 0, 0, 2) // in the place of what was
	if !slices.Equal(toldAll(t, s), []int{1, 2}) {
		t.Error(toldAll(t, s))
	}
	says(t, s, api.CmdRun, 999, calling("nothing"), okay, 0, 0, 0, 0, 0, 0)
	says(t, s, api.CmdTold, 0, "", okay)
	says(t, s, api.CmdTold, 1, "", noPlace)
}

func TestP24_5Stop(t *testing.T) {
	s, c := running(t)
	says(t, s, api.CmdStop, 0, "", okay)
	says(t, s, api.CmdRun, 999, calling("tells", 4), okay, 0, 0, 0, 4, 0, 4)
	says(t, s, api.CmdBegin, 3, "", okay)
	says(t, s, api.CmdChunk, 0, "abc", okay, 0, 3)
	was := state(c)
	for range 2 {
		says(t, s, api.CmdStop, 9, "plays no part", okay)
		says(t, s, api.CmdTold, 0, "", okay)
		says(t, s, api.CmdTold, 1, "", noPlace)
		says(t, s, api.CmdChunk, 3, "", noOrder)
		says(t, s, api.CmdInstall, 0, "", noOrder)
	}
	if state(c) != was || s.Waits() != 0 { // the card stays as it is, its selected package too
		t.Error(state(c))
	}
}

// A file is brought over whatever else is asked, but for what forgets it.
func TestP24_5WhatForgetsAFile(t *testing.T) {
	file := small(t, "b")
	s, _ := running(t)
	for _, r := range []api.Request{
		{Command: api.CmdHello}, {Command: api.CmdList}, {Command: api.CmdSelect, Data: []byte("m")}, {Command: api.CmdSelect}, {Command: api.CmdBegin}, {Command: api.CmdBegin, Number: 4097}, {Command: api.CmdChunk, Number: 9}, {Command: api.CmdInstall},
		{Command: api.CmdRemove, Data: []byte("x")}, {Command: api.CmdRun, Number: 999, Data: []byte(calling("tells", 3))}, {Command: api.CmdRun, Data: []byte(calling("add"))}, {Command: api.CmdRun}, {Command: api.CmdTold}, {Command: 0},
	} {
		says(t, s, api.CmdBegin, len(file), "", okay)
		says(t, s, api.CmdChunk, 0, string(file[:7]), okay, 0, 7)
		asked(t, s, r)
		if s.Waits() != 7 {
			t.Error("it is gone behind", r)
		}
		says(t, s, api.CmdChunk, 7, string(file[7:]), okay, two(len(file))...)
		says(t, s, api.CmdInstall, 0, "", okay, 'b')
		says(t, s, api.CmdRemove, 0, "b", okay)
	}
}

func TestP24_6ASessionThatNoCallMade(t *testing.T) {
	for i, s := range []*talk.Session{nil, {}, new(talk.Session)} {
		for range 2 {
			for command := range 12 {
				for _, number := range []int{0, 1, 65535} {
					f := requestTold(api.Request{Command: command, Number: number, Data: []byte("a")})
					if b := s.Handle(f); len(b) > 0 || s.Waits() != 0 {
						t.Error(i, command, b)
					}
				}
			}
			for _, b := range [][]byte{nil, {}, {1}, make([]byte, 5000)} {
				if b := s.Handle(b); len(b) > 0 || s.Waits() != 0 {
					t.Error(i, b)
				}
			}
		}
	}
}

func TestWhatIsHandedToASessionIsNeitherChangedNorKept(t *testing.T) {
	c := newCard(t, 1000)
	s := over(t, c)
	file := small(t, "a")
	for _, r := range []api.Request{{Command: api.CmdBegin, Number: len(file)}, {Command: api.CmdChunk, Data: file[:9]}, {Command: api.CmdChunk, Number: 9, Data: file[9:]}, {Command: api.CmdInstall}, {Command: api.CmdSelect, Data: []byte("a")}} {
		f := requestTold(r)
		b := append(bytes.Clone(f), 5, 5, 5)
		a, _ := talk.Heard(s.Handle(b[:len(f)]))
		if a.Status != okay || !bytes.Equal(b, append(f, 5, 5, 5)) {
			t.Error(r, a)
		}
		samples.Overwrite(b, 99)
	}
	if c.Selected() != "a" {
		t.Error(state(c))
	}
	if n, why := c.Size("a"); n != len(file) || why != api.OK {
		t.Error(n, why)
	}
}

func TestAnswersOfASessionAreNewMemory(t *testing.T) {
	s, c := running(t)
	was := state(c)
	for _, r := range []api.Request{{Command: api.CmdHello}, {Command: api.CmdList}, {Command: api.CmdRun, Number: 999, Data: []byte(calling("tells", 9))}, {Command: api.CmdTold}, {Command: api.CmdBegin, Number: 1}, {Command: api.CmdChunk}, {Command: api.CmdStop}, {Command: 11}, {Command: api.CmdRun}} {
		one := s.Handle(requestTold(r))
		first := bytes.Clone(one)
		other := s.Handle(requestTold(r))
		samples.Overwrite(one, 99)
		if third := s.Handle(requestTold(r)); !bytes.Equal(other, first) || !bytes.Equal(third, first) || state(c) != was {
			t.Error(r, "shared")
		}
	}
}

func TestTwoSessionsKnowNothingOfOneAnother(t *testing.T) {
	s, c := running(t)
	other := over(t, c)
	says(t, s, api.CmdRun, 999, calling("tells", 3), okay, 0, 0, 0, 3, 0, 3)
	says(t, s, api.CmdBegin, 3, "", okay)
	says(t, s, api.CmdChunk, 0, "ab", okay, 0, 2)
	says(t, other, api.CmdTold, 1, "", noPlace)
	says(t, other, api.CmdChunk, 2, "c", noOrder)
	says(t, other, api.CmdHello, 0, "", okay, 1, 'm') // the card is the same
	says(t, other, api.CmdStop, 0, "", okay)
	if other.Waits() != 0 || s.Waits() != 2 || !slices.Equal(toldAll(t, s), squares(3)) {
		t.Error(other.Waits(), s.Waits())
	}
	far := over(t, newCard(t, 100))
	says(t, far, api.CmdHello, 0, "", okay, 0)
}

func TestExamplesOfChapter24(t *testing.T) {
	b, why := talk.Pack(api.Request{Command: 1})
	if why != api.OK || !bytes.Equal(b, summed([]byte{0x50, 1, 0, 0, 0})) {
		t.Error(b, why)
	}
	s := over(t, newCard(t, 100))
	if got := s.Handle(b); !bytes.Equal(got, summed([]byte{0x70, 0x90, 0, 1, 0})) {
		t.Error(got)
	}
	says(t, s, 4, 3, "", 0x9000)
	says(t, s, 5, 0, "ab", 0x9000, 0, 2)
	says(t, s, 5, 0, "ab", 0x6b00, 0, 2)
	says(t, s, 5, 2, "c", 0x9000, 0, 3)
	says(t, s, 6, 0, "", 0x6adc)
	says(t, s, 6, 0, "", 0x6985)
	says(t, s, 11, 0, "", 0x6d00)
	b[len(b)-1] ^= 1
	if got := s.Handle(b); !bytes.Equal(got, summed([]byte{0x70, 0x67, 0, 0})) {
		t.Error(got)
	}
}
