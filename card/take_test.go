package card_test

import (
	"bytes"
	"fmt"
	"slices"
	"strings"
	"testing"

	"proviso/api"
	"proviso/cert"
	"proviso/machine"
	"proviso/module"
	"proviso/samples"
	"proviso/store"
)

// noPackages are files named m that are none, by why.
func noPackages(t *testing.T) map[string][]byte {
	t.Helper()
	whole := small(t, "m")
	body := whole[:len(whole)-4]
	none, _ := cert.Encode(api.Cert{})
	other, _ := cert.Encode(api.Cert{Locals: 1})
	dead, _ := cert.Encode(api.Cert{Entries: []api.Entry{{At: 0, Dead: true}}})
	stray, _ := cert.Encode(api.Cert{Entries: []api.Entry{{At: 9}}})
	with := func(code, proof []byte) []byte {
		return encoded(t, api.Module{Name: "m", Funcs: []api.Func{{Name: "f", Code: code}}, Certs: [][]byte{proof}})
	}
	turned := func(old, new string) []byte { return summed(bytes.Replace(body, []byte(old), []byte(new), 1)) }
	l := map[string][]byte{
		"nothing":                   nil,
		"a byte":                    {0x70},
		"the beginning of a file":   []byte("pvm\x01"),
		"another beginning":         turned("pvm", "pwm"),
		"another version":           turned("pvm\x01", "pvm\x02"),
		"without its sum":           body,
		"cut":                       whole[:len(whole)-1],
		"more behind":               append(bytes.Clone(whole), 0),
		"more behind, with its sum": summed(append(bytes.Clone(body), 0)),
		"another sum":               append(bytes.Clone(body), 1, 2, 3, 4),
		"no name":                   turned("\x01m", "\x011"),
		"a function without a name": turned("\x01f", "\x01_"),
		"neither 0 nor 1":           turned("\x00\x01\x16\x01", "\x00\x01\x16\x02"),
		"no functions":              encoded(t, api.Module{Name: "m"}),
		"no certificates":           encoded(t, api.Module{Name: "m", Funcs: []api.Func{{Name: "f", Code: []byte{api.OpReturn}}}}),
		"an empty certificate":      with([]byte{api.OpReturn}, nil),
		"another certificate":       with([]byte{api.OpReturn}, []byte("no certificate")),
		"a byte too many":           with([]byte{api.OpReturn}, append(bytes.Clone(none), 0)),
		"other locals":              with([]byte{api.OpReturn}, other),
		"a dead beginning":          with([]byte{api.OpReturn}, dead),
		"a stray entry":             with([]byte{api.OpReturn}, stray),
		"nothing on the stack":      with([]byte{api.OpAdd, api.OpReturn}, none),
		"another type":              with([]byte{api.OpNull, api.OpNeg, api.OpPop, api.OpReturn}, none),
		"no such function":          with([]byte{api.OpCall, 9, api.OpReturn}, none),
		"something is left":         with([]byte{api.OpNull, api.OpReturn}, none),
		"code goes on":              with([]byte{api.OpNop}, none),
		"no instruction":            with([]byte{34}, none),
		"a jump without its entry":  with([]byte{api.OpJump, 0, 0}, none),
		"a local that is not there": with([]byte{api.OpLoad, 0, api.OpPop, api.OpReturn}, none),
	}
	two := api.Module{Name: "m", Classes: samples.Shapes(), Certs: [][]byte{none, none}, Funcs: []api.Func{{Name: "f", Code: []byte{api.OpReturn}}, {Name: "g", Code: []byte{api.OpReturn}}}}
	good := encoded(t, two)
	l["two functions of a name"] = summed(bytes.Replace(good[:len(good)-4], []byte("\x01g"), []byte("\x01f"), 1))
	l["two classes of a name"] = summed(bytes.Replace(good[:len(good)-4], []byte("\x04disc"), []byte("\x04list"), 1))
	l["a class that has another name"] = summed(bytes.Replace(good[:len(good)-4], []byte("\x05shape"), []byte("\x03int"), 1))
	two.Funcs[1].Code = []byte{api.OpPop, api.OpReturn}
	l["the second function"] = encoded(t, two)
	for why, b := range l {
		if bytes.Equal(b, whole) || bytes.Equal(b, good) {
			t.Fatal("a package itself", why)
		}
	}
	if _, is := isPackage(good); !is {
		t.Fatal("no package")
	}
	return l
}

func TestP22_3WhatIsNoPackage(t *testing.T) {
	c := made(t, 32768)
	install(t, c, small(t, "n"))
	c.Select("n")
	was := state(c)
	for why, b := range noPackages(t) {
		if name, l, e := c.Install(b); name != "" || len(l) > 0 || e != api.ErrPackage {
			t.Error(why, name, l, e)
		}
		if state(c) != was {
			t.Fatal("something has changed", why)
		}
	}
}

func TestP22_3Install(t *testing.T) {
	c, s := made(t, 32768), store.New()
	for i, file := range [][]byte{
		small(t, "b"), small(t, "a"), sized(t, strings.Repeat("n", 24), 4096),
		compiled(t, "loops", "fun f(n int) int { while n > 3 { n = n - 2; } return n; }"),
		encoded(t, samplesModule(5, "dice", 2)),
	} {
		want, is := isPackage(file)
		if !is || len(file) > 4096 {
			t.Fatal(i, "no package")
		}
		name, l, why := c.Install(file)
		k, _ := s.Put(want, file)
		if name != want || why != api.OK || show(l) != show(k) || len(l) != 2 {
			t.Error(i, name, why)
		}
		if n, why := c.Size(name); n != len(file) || why != api.OK || !bytes.Equal(c.Image(), s.Image()) || !slices.Contains(c.Names(), name) || c.Selected() != "" {
			t.Error(i, n, why)
		}
	}
}

func samplesModule(seed dice, name string, n int) api.Module {
	m := samples.Module(&seed, n)
	m.Name = name
	return m
}

// isRefused tells a file whose Install must answer an error, and change nothing.
func isRefused(t *testing.T, about string, image []byte, quota int, file []byte, want api.Errno) {
	t.Helper()
	c := opened(t, image, quota)
	was := state(c)
	if name, l, why := c.Install(file); name != "" || len(l) > 0 || why != want {
		t.Error(about, name, len(l), why)
	}
	if state(c) != was {
		t.Error(about, "something has changed")
	}
}

func TestP22_3FirstError(t *testing.T) {
	file := small(t, "k03")
	var eight, seven [][]byte
	for i := range 8 {
		eight = append(eight, small(t, key(i)))
	}
	seven = slices.Concat(eight[:3], eight[4:])
	size := 7 * len(file)
	full := long(t, 1<<20-1, eight...)
	none := make([]byte, 4097)
	wide := func(n int) []byte { return sized(t, "k03", n) }

	isRefused(t, "too long, no package", full, size+len(file), none, api.ErrLong)
	isRefused(t, "too long, and all else", full, size+len(file), wide(4097), api.ErrLong)
	isRefused(t, "no package, and all else", full, size+len(file), none[:4096], api.ErrPackage)
	isRefused(t, "there, and all else", full, size+len(file), file, api.ErrThere)
	isRefused(t, "there, with other bytes, and all else", full, size+len(file), wide(4096), api.ErrThere)
	isRefused(t, "there, with room for more", long(t, 1<<19, seven[0], eight[3]), 32768, file, api.ErrThere)
	isRefused(t, "MaxPackages, no quota, no room", full, size+len(file), small(t, "new"), api.ErrFull)
	isRefused(t, "MaxPackages, no quota", long(t, 1<<19, eight...), size+len(file), small(t, "new"), api.ErrFull)
	isRefused(t, "MaxPackages", long(t, 1<<19, eight...), 32768, small(t, "new"), api.ErrFull)
	isRefused(t, "no quota, no room", long(t, 1<<20-1, seven...), size+len(file)-1, file, api.ErrQuota)
	isRefused(t, "no quota", long(t, 1<<19, seven...), size+len(file)-1, file, api.ErrQuota)
	isRefused(t, "no room", long(t, 1<<20-1, seven...), 32768, file, api.ErrFull)
	isRefused(t, "no room for a byte", long(t, 1<<20-len(file)-7, seven...), 32768, file, api.ErrFull)

	c := opened(t, long(t, 1<<20-len(file)-8, seven...), size+len(file))
	if name, l, why := c.Install(file); name != "k03" || len(l) != 2 || why != api.OK || c.Free() != 0 || len(c.Image()) != 1<<20-1 {
		t.Error(name, why, c.Free(), len(c.Image()))
	}
}

func TestP22_3MostBytes(t *testing.T) {
	for n := 4090; n < 4103; n++ {
		c := made(t, 32768)
		name, l, why := c.Install(sized(t, "m", n))
		if n <= 4096 && (name != "m" || len(l) != 2 || why != api.OK) || n > 4096 && (name != "" || len(l) > 0 || why != api.ErrLong) {
			t.Error(n, name, why)
		}
	}
}

func TestP22_3MostPackages(t *testing.T) {
	c := made(t, 32768)
	for i := range 8 {
		install(t, c, sized(t, key(i), 4096))
		if c.Free() != 32768-4096*(i+1) || len(c.Names()) != i+1 {
			t.Error(i, c.Free())
		}
	}
	if _, _, why := c.Install(small(t, "k08")); why != api.ErrFull {
		t.Error(why)
	}
	c.Remove("k05")
	install(t, c, small(t, "k08"))
	if _, _, why := c.Install(small(t, "k05")); why != api.ErrFull || len(c.Names()) != 8 {
		t.Error(why)
	}
}

func TestP22_3Quota(t *testing.T) {
	a, b := small(t, "a"), small(t, "b")
	for quota := range 2*len(a) + 3 {
		c := made(t, quota)
		_, _, first := c.Install(a)
		_, _, second := c.Install(b)
		want := []api.Errno{api.ErrQuota, api.ErrQuota}
		if quota >= len(a) {
			want[0] = api.OK
		}
		if quota >= 2*len(a) {
			want[1] = api.OK
		}
		if first != want[0] || second != want[1] || c.Free() != quota-len(c.Names())*len(a) {
			t.Error(quota, first, second, c.Free())
		}
	}
}

func TestP22_3Remove(t *testing.T) {
	c, s := made(t, 1000), store.New()
	for _, name := range []string{"a", "b", "c"} {
		install(t, c, small(t, name))
		s.Put(name, small(t, name))
	}
	c.Select("b")
	was := state(c)
	for _, name := range append(noNames(), "d", "A") {
		want := api.ErrName
		if name == "d" || name == "A" {
			want = api.ErrKey
		}
		if l, why := c.Remove(name); len(l) > 0 || why != want || state(c) != was {
			t.Errorf("%.30q: %v, %v", name, l, why)
		}
	}
	for i, name := range []string{"a", "b", "c"} {
		l, why := c.Remove(name)
		if k, _ := s.Drop(name); why != api.OK || show(l) != show(k) || !bytes.Equal(c.Image(), s.Image()) || !slices.Equal(c.Names(), s.Names()) {
			t.Error(name, l, why)
		}
		if want := []string{"b", "", ""}[i]; c.Selected() != want {
			t.Error(name, c.Selected())
		}
		if _, why := c.Remove(name); why != api.ErrKey {
			t.Error(name, why)
		}
	}
	install(t, c, small(t, "b")) // it is there again, but not selected
	if c.Selected() != "" || c.Free() != 1000-len(small(t, "b")) {
		t.Error(state(c))
	}
}

func TestP22_3RemoveWithoutRoom(t *testing.T) {
	a := small(t, "a")
	for n := 1<<20 - 8; n < 1<<20+1; n++ {
		c := opened(t, long(t, n, a), 1000)
		c.Select("a")
		was := state(c)
		l, why := c.Remove("a")
		if n+4 <= 1<<20 {
			if why != api.OK || len(l) != 2 || c.Selected() != "" || len(c.Names()) > 0 {
				t.Error(n, why)
			}
			continue
		}
		if why != api.ErrFull || len(l) > 0 || state(c) != was {
			t.Error(n, why)
		}
		c.Pack()
		if _, why := c.Remove("a"); why != api.OK {
			t.Error(n, why)
		}
	}
}

func TestP22_4Select(t *testing.T) {
	c := made(t, 1000)
	install(t, c, small(t, "a"))
	install(t, c, small(t, "b"))
	if c.Selected() != "" {
		t.Error(c.Selected())
	}
	for _, selected := range []string{"", "a", "b", "a", "a"} {
		if selected != "" {
			if why := c.Select(selected); why != api.OK {
				t.Error(selected, why)
			}
		}
		for _, name := range append(noNames(), "d", "A") {
			want := api.ErrName
			if name == "d" || name == "A" {
				want = api.ErrKey
			}
			if why := c.Select(name); why != want || c.Selected() != selected {
				t.Errorf("%.30q: %v, %s", name, why, c.Selected())
			}
		}
	}
	c.Remove("b")
	if c.Selected() != "a" {
		t.Error(c.Selected())
	}
	if o := opened(t, c.Image(), 1000); o.Selected() != "" {
		t.Error("selected from the beginning")
	}
}

const runs = `
record pair { a int, b int }
fun add(a int, b int) int { return a + b; }
fun turn(b bool) bool { return !b; }
fun tells(n int) { while n > 0 { tell n; n = n - 1; } }
fun over(n int) int { return 7 / n; }
fun fails() { fail 3; }
fun makes(n int) int { var p pair = new pair; p.a = n; var r ints = new ints(n); r[0] = p.a; return r[0] + len(r); }
fun deep(n int) int { return deep(n + 1); }
fun first(p pair) int { return p.a; }
`

func TestP22_5Run(t *testing.T) {
	file := compiled(t, "m", runs)
	m, _, _ := module.Decode(file)
	c := made(t, 32768)
	install(t, c, small(t, "other"))
	install(t, c, file)
	c.Select("m")
	was := state(c)
	came := map[api.Errno]int{}
	for fn, f := range m.Funcs {
		for _, args := range [][]int{nil, {}, {0}, {1}, {4}, {-1}, {1 << 40}, {2, 3}, {1, 2, 3}, make([]int, 5000)} {
			for _, fuel := range []int{-1, 0, 1, 3, 10, 1000, 1 << 20, 1<<20 + 1} {
				for _, room := range []int{-1, 0, 3, 20, 4096, 4097} {
					o, why := c.Run(f.Name, args, fuel, room)
					if want := machine.Bare(m, fn, args, fuel, room); why != api.OK || show(o) != show(want) {
						t.Fatal(f.Name, args, fuel, room, o, why, want)
					}
					came[o.Err]++
				}
			}
		}
	}
	for _, err := range []api.Errno{api.OK, api.ErrArg, api.ErrArgs, api.ErrFuel, api.ErrTrap} {
		if came[err] < 20 {
			t.Error("hardly comes", err, came[err])
		}
	}
	if state(c) != was {
		t.Error("a run has changed something")
	}
}

func TestP22_5FirstError(t *testing.T) {
	c := made(t, 1000)
	isOut := func(entry string, want api.Errno) {
		t.Helper()
		for _, fuel := range []int{-1, 100} {
			if o, why := c.Run(entry, []int{1, 2}, fuel, -1); show(o) != show(api.Outcome{}) || why != want {
				t.Errorf("%.30q: %v, %v", entry, o, why)
			}
		}
	}
	names := append(noNames(), "f", "g", "F", "m")
	for _, entry := range names {
		isOut(entry, api.ErrSelect)
	}
	install(t, c, small(t, "m"))
	install(t, c, compiled(t, "n", "fun g() {}"))
	for _, entry := range names { // none is selected yet
		isOut(entry, api.ErrSelect)
	}
	c.Select("m")
	for _, entry := range names {
		if entry != "f" {
			isOut(entry, api.ErrFunc)
		}
	}
	c.Select("n")
	isOut("f", api.ErrFunc)
	if o, why := c.Run("g", nil, 10, 0); o.Err != api.OK || why != api.OK {
		t.Error(o, why)
	}
	c.Remove("n")
	isOut("g", api.ErrSelect)
	isOut("f", api.ErrSelect)
}

func TestP22_5TheLastOneThatWasInstalled(t *testing.T) {
	c := made(t, 1000)
	for n := range 5 {
		install(t, c, compiled(t, "m", fmt.Sprint("fun f() int { return ", n, "; }")))
		c.Select("m")
		if o, why := c.Run("f", nil, 10, 0); o.Result != n || why != api.OK {
			t.Error(n, o, why)
		}
		c.Remove("m")
	}
}
