package opt_test

import (
	"bytes"
	"fmt"
	"math"
	"slices"
	"strconv"
	"strings"
	"testing"

	"proviso/api"
	"proviso/code"
	"proviso/flow"
	"proviso/opt"
	"proviso/samples"
)

type dice = samples.Dice

func pick[T any](d *dice, l []T) T { return l[d.Below(len(l))] }

// show is all fields of a thing; an empty list is none.
func show(x any) string { return fmt.Sprintf("%+v", x) }

// assembled is the code of a text in which an instruction may have a label ahead, a: nop, and a jump lead to one.
func assembled(t *testing.T, text string) []byte {
	t.Helper()
	labels, at := map[string]int{}, 0
	var lines []string
	for _, line := range strings.Split(text, ";") {
		line = strings.TrimSpace(line)
		if name, rest, is := strings.Cut(line, ":"); is {
			labels[name], line = at, strings.TrimSpace(rest)
		}
		word, _, _ := strings.Cut(line, " ")
		op, _ := code.Op(word)
		at += code.Size(op)
		lines = append(lines, line)
	}
	for i, line := range lines {
		if word, name, is := strings.Cut(line, " "); is {
			if to, is := labels[name]; is {
				lines[i] = word + " " + strconv.Itoa(to)
			}
		}
	}
	b, is := samples.Assembled(strings.Join(lines, ";"))
	if !is {
		t.Fatal("no code: ", text)
	}
	return b
}

// words is code as a text; a jump's A is an address.
func words(b []byte) string {
	var all []string
	l, _, _ := flow.Scan(b)
	for _, in := range l {
		line := strconv.Itoa(in.At) + " " + code.Name(in.Op)
		if code.Size(in.Op) > 1 {
			line += " " + strconv.Itoa(in.A)
		}
		all = append(all, line)
	}
	return strings.Join(all, "; ")
}

// optimised is the code that comes of code which may be; it is held against the chapter's words.
func optimised(t *testing.T, b []byte) []byte {
	t.Helper()
	f, why := opt.Func(api.Func{Code: b})
	if why != api.OK {
		t.Fatal(words(b), b, why)
	}
	if want := told(b); !bytes.Equal(f.Code, want) {
		t.Fatalf("of %s\ncame %s\nwanted %s", words(b), words(f.Code), words(want))
	}
	return f.Code
}

// becomes holds what comes of a text against another one.
func becomes(t *testing.T, text, want string) {
	t.Helper()
	if got, code := optimised(t, assembled(t, text)), assembled(t, want); !bytes.Equal(got, code) {
		t.Errorf("%s\nbecame %s\nwanted %s", text, words(got), words(code))
	}
}

// stays is a text of which nothing else comes.
func stays(t *testing.T, text string) {
	t.Helper()
	becomes(t, text, text)
}

// numbers are some of 32 bits, and their ends.
func numbers() []int {
	return []int{0, 1, 2, 3, -1, -2, 7, 46341, 65536, -65536, 1 << 30, math.MaxInt32, math.MaxInt32 - 1, math.MinInt32, math.MinInt32 + 1}
}

// some is an instruction as the dice fall, out of those that the rules look at more often than not; of n instructions the place of one is where a jump leads.
func some(d *dice, n int) api.Instr {
	in := api.Instr{Op: pick(d, []byte{
		api.OpNop, api.OpInt, api.OpInt, api.OpInt, api.OpInt, api.OpBool, api.OpBool, api.OpBool, api.OpNull, api.OpPop, api.OpPop, api.OpPop, api.OpDup, api.OpAdd, api.OpSub, api.OpMul,
		api.OpNeg, api.OpLess, api.OpSame, api.OpNot, api.OpNot, api.OpJump, api.OpJump, api.OpJump, api.OpUnless, api.OpUnless, api.OpUnless, byte(d.Below(34)),
	})}
	switch {
	case code.Jumps(in.Op):
		in.A = d.Below(n)
	case in.Op == api.OpInt:
		in.A = pick(d, numbers())
	case code.Size(in.Op) > 1:
		in.A = d.Below(2)
	}
	return in
}

// loose is code of n instructions that may be, as the dice fall.
func loose(d *dice, n int) []byte {
	var l []api.Instr
	for range n - 1 {
		l = append(l, some(d, n))
	}
	last := some(d, n)
	for !code.Ends(last.Op) {
		last = some(d, n)
	}
	return laid(append(l, last))
}

// laid is the code of instructions whose jumps' A's are places.
func laid(l []api.Instr) []byte {
	ats, at := make([]int, len(l)), 0
	for i, in := range l {
		ats[i] = at
		at += code.Size(in.Op)
	}
	l = slices.Clone(l)
	for i, in := range l {
		if code.Jumps(in.Op) {
			l[i].A = ats[in.A]
		}
	}
	b, at, why := code.All(l)
	if why != api.OK {
		panic(show(l[at]))
	}
	return b
}

// placed is the instructions of code with places as the jumps' A's.
func placed(b []byte) []api.Instr {
	l, _, _ := flow.Scan(b)
	all := slices.Clone(l)
	for i, in := range l {
		if code.Jumps(in.Op) {
			all[i].A = slices.IndexFunc(l, func(x api.Instr) bool { return x.At == in.A })
		}
	}
	return all
}

// idle are instructions that do nothing together, at a place, as the dice fall; jumps' A's are places.
func idle(d *dice, at int) []api.Instr {
	number := func() api.Instr { return api.Instr{Op: api.OpInt, A: pick(d, numbers())} }
	is := func() api.Instr { return api.Instr{Op: api.OpBool, A: d.Below(2)} }
	op := func(op byte) api.Instr { return api.Instr{Op: op} }
	to := func(op byte, n int) api.Instr { return api.Instr{Op: op, A: at + n} }
	return pick(d, [][]api.Instr{
		{op(api.OpNop)},
		{to(api.OpJump, 1)},
		{number(), op(api.OpPop)},
		{is(), op(api.OpPop)},
		{op(api.OpNull), op(api.OpPop)},
		{op(api.OpDup), op(api.OpPop)},
		{is(), to(api.OpUnless, 2)},
		{is(), is(), op(api.OpSame), to(api.OpUnless, 4)},
		{number(), op(api.OpNeg), number(), op(pick(d, []byte{api.OpAdd, api.OpSub, api.OpMul})), op(api.OpPop)},
		{number(), number(), op(pick(d, []byte{api.OpLess, api.OpSame})), op(api.OpNot), to(api.OpUnless, 5)},
		{to(api.OpJump, 3), number(), op(api.OpNop)},
		{to(api.OpJump, 2), to(api.OpJump, 3), to(api.OpJump, 1)},
		{is(), to(api.OpUnless, 4), op(api.OpNop), to(api.OpJump, 5), op(api.OpNop)},
		{is(), op(api.OpNot), op(api.OpNot), op(api.OpNot), op(api.OpPop)},
	})
}

// padded is code that does the same in more steps: between its instructions stand some that do nothing, and who led to an instruction leads to these ahead of it now and then.
func padded(d *dice, b []byte) []byte {
	l := placed(b)
	var all []api.Instr
	first, own := make([]int, len(l)), make([]int, len(l)) // by place: where it begins now, what does nothing counted, or not
	for i, in := range l {
		first[i] = len(all)
		for d.Below(4) == 0 {
			all = append(all, idle(d, len(all))...)
		}
		own[i] = len(all)
		all = append(all, in)
	}
	for i, in := range l {
		if code.Jumps(in.Op) {
			all[own[i]].A = pick(d, [][]int{first, own})[in.A]
		}
	}
	return laid(all)
}
