package step_test

import (
	"slices"
	"strings"

	"proviso/api"
	"proviso/frames"
	"proviso/types"
)

// table is the document's: what each instruction takes, the last one from the top, and what it gives. A is class A, B the type of its field B; a and b are the entries that were taken; params, its and own are a signature's.
const table = `
nop | |
int | | int
bool | | bool
null | | null
load | | local
store | known |
pop | any |
dup | any | a a
swap | any any | b a
add | int int | int
sub | int int | int
mul | int int | int
div | int int | int
rem | int int | int
neg | int | int
less | int int | bool
same | same same | bool
not | bool | bool
is | ref ref | bool
jump | |
unless | bool |
call | params | its
return | own |
new | | A
get | A | B
put | A B |
make | int | ints
len | ints | int
at | ints int | int
set | ints int int |
cast | ref | A
test | ref | bool
trap | |
tell | int |
`

// words yields the table's words of instructions, in their order.
func words(yield func(string) bool) {
	for line := range strings.Lines(strings.TrimSpace(table)) {
		if !yield(strings.TrimSpace(strings.Split(line, "|")[0])) {
			return
		}
	}
}

// row is what stands in the table of an instruction.
func row(op byte) (takes, gives []string) {
	cells := strings.Split(strings.Split(strings.TrimSpace(table), "\n")[op], "|")
	return strings.Fields(cells[1]), strings.Fields(cells[2])
}

// exactly is the type that a word of the table names.
func exactly(e api.Env, in api.Instr, word string) api.Type {
	switch word {
	case "int":
		return api.TInt
	case "bool":
		return api.TBool
	case "null":
		return api.TNull
	case "ints":
		return api.TInts
	case "A":
		return api.TClass + api.Type(in.A)
	}
	return types.Fields(e.Classes, in.A)[in.B].Type
}

// isWanted tells whether an entry is as a word of the table wants it.
func isWanted(e api.Env, in api.Instr, word string, t api.Type) bool {
	switch word {
	case "any":
		return true
	case "known":
		return t != api.TTop
	case "same":
		return t == api.TInt || t == api.TBool
	case "ref":
		return types.IsRef(t)
	}
	return types.Sub(e.Classes, t, exactly(e, in, word))
}

// takenBy is the words of what an instruction takes, or, if those are a signature's, its types.
func takenBy(e api.Env, in api.Instr) ([]string, []api.Type) {
	words, _ := row(in.Op)
	if slices.Equal(words, []string{"params"}) {
		return nil, e.Sigs[in.A].Params
	}
	if slices.Equal(words, []string{"own"}) {
		if r := e.Sigs[e.Fn].Result; r != api.TTop {
			return nil, []api.Type{r}
		}
		return nil, nil
	}
	return words, nil
}

// givenBy is what an instruction gives, of a frame and of what it took there.
func givenBy(e api.Env, f api.Frame, in api.Instr, taken []api.Type) []api.Type {
	_, words := row(in.Op)
	var all []api.Type
	for _, w := range words {
		switch w {
		case "a":
			all = append(all, taken[0])
		case "b":
			all = append(all, taken[1])
		case "local":
			all = append(all, f.Slots[in.A])
		case "its":
			if r := e.Sigs[in.A].Result; r != api.TTop {
				all = append(all, r)
			}
		default:
			all = append(all, exactly(e, in, w))
		}
	}
	return all
}

// can is the document's 'an environment can be', word by word.
func can(e api.Env) bool {
	if _, why := types.Check(e.Classes); why != api.OK {
		return false
	}
	if len(e.Sigs) < 1 || len(e.Sigs) > 64 || e.Fn < 0 || e.Fn >= len(e.Sigs) {
		return false
	}
	values := ofValues(e.Classes)
	for _, s := range e.Sigs {
		if len(s.Params) > 8 || s.Result != api.TTop && !slices.Contains(values, s.Result) {
			return false
		}
		for _, p := range s.Params {
			if !slices.Contains(values, p) {
				return false
			}
		}
	}
	return true
}

// named is ErrFunc or ErrMember, of an instruction whose operand names nothing.
func named(e api.Env, in api.Instr) api.Errno {
	switch in.Op {
	case api.OpCall:
		if in.A < 0 || in.A >= len(e.Sigs) {
			return api.ErrFunc
		}
	case api.OpNew, api.OpGet, api.OpPut, api.OpCast, api.OpTest:
		if in.A < 0 || in.A >= len(e.Classes) {
			return api.ErrMember
		}
		if n := len(types.Fields(e.Classes, in.A)); (in.Op == api.OpGet || in.Op == api.OpPut) && (in.B < 0 || in.B >= n) {
			return api.ErrMember
		}
	}
	return api.OK
}

// applied is P7.1, word by word.
func applied(e api.Env, f api.Frame, in api.Instr) (api.Frame, api.Errno) {
	if !can(e) {
		return api.Frame{}, api.ErrArg
	}
	if why := frames.Check(e.Classes, f); why != api.OK {
		return api.Frame{}, why
	}
	if in.Op > 33 {
		return api.Frame{}, api.ErrOp
	}
	if (in.Op == api.OpLoad || in.Op == api.OpStore) && (in.A < 0 || in.A >= f.Locals) {
		return api.Frame{}, api.ErrSlot
	}
	if why := named(e, in); why != api.OK {
		return api.Frame{}, why
	}
	words, sig := takenBy(e, in)
	n := len(words) + len(sig)
	if f.Height < n {
		return api.Frame{}, api.ErrUnder
	}
	all := f.Slots[:f.Locals+f.Height]
	taken, left := all[len(all)-n:], all[:len(all)-n]
	for i, t := range taken {
		if words != nil && !isWanted(e, in, words[i], t) || words == nil && !types.Sub(e.Classes, t, sig[i]) {
			return api.Frame{}, api.ErrWant
		}
	}
	if in.Op == api.OpSame && taken[0] != taken[1] || in.Op == api.OpLoad && f.Slots[in.A] == api.TTop {
		return api.Frame{}, api.ErrWant
	}
	if in.Op == api.OpReturn && len(left) > f.Locals {
		return api.Frame{}, api.ErrResult
	}
	now := append(slices.Clone(left), givenBy(e, f, in, taken)...)
	if len(now) > 24 {
		return api.Frame{}, api.ErrOver
	}
	if in.Op == api.OpStore {
		now[in.A] = taken[0]
	}
	return of(f.Locals, now...), api.OK
}

// counts is P7.2, word by word: how many are taken, and given.
func counts(e api.Env, in api.Instr) (int, int, api.Errno) {
	if !can(e) {
		return 0, 0, api.ErrArg
	}
	if in.Op > 33 {
		return 0, 0, api.ErrOp
	}
	if why := named(e, in); why != api.OK {
		return 0, 0, why
	}
	words, sig := takenBy(e, in)
	_, gives := row(in.Op)
	if in.Op == api.OpCall && e.Sigs[in.A].Result == api.TTop {
		gives = nil
	}
	return len(words) + len(sig), len(gives), api.OK
}
