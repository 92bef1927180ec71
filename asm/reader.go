package asm

import (
	"proviso/api"
	"proviso/code"
	"proviso/wire"
)

// reader takes a text's lines one behind another.
type reader struct {
	ops    map[string]byte // instructions, by their words
	labels map[string]int  // addresses, by the labels that name them
	list   []api.Instr
	size   int // bytes that list has: the address of what comes next
	jumps  []jump
}

// jump is one that waits for its label, which may stand behind it.
type jump struct {
	line  int
	place int // in the reader's list
	label string
}

func newReader() *reader {
	r := &reader{ops: map[string]byte{}, labels: map[string]int{}}
	for op := range api.NumOps {
		r.ops[code.Name(op)] = op
	}
	return r
}

// read takes a line's words.
func (r *reader) read(line int, words []string) api.Errno {
	if len(words) == 0 {
		return api.OK
	}
	if name, is := labelOf(words); is {
		return r.name(name)
	}
	op, is := r.ops[words[0]]
	if !is || len(words)-1 != operands(op) {
		return api.ErrLine
	}
	if code.Jumps(op) {
		return r.jump(line, op, words[1])
	}
	return r.plain(op, words[1:])
}

// name lets a label name the address of what comes next.
func (r *reader) name(label string) api.Errno {
	if _, is := r.labels[label]; is {
		return api.ErrLabel
	}
	r.labels[label] = r.size
	return api.OK
}

func (r *reader) jump(line int, op byte, label string) api.Errno {
	if !wire.IsName(label) {
		return api.ErrLine
	}
	r.jumps = append(r.jumps, jump{line, len(r.list), label})
	return r.put(api.Instr{Op: op})
}

// plain takes an instruction that does not jump: its operands are numbers.
func (r *reader) plain(op byte, words []string) api.Errno {
	var values [maxOperands]int
	for i, word := range words {
		n, is := number(word)
		if !is {
			return api.ErrLine
		}
		values[i] = n
	}
	return r.put(api.Instr{Op: op, A: values[0], B: values[1]})
}

func (r *reader) put(in api.Instr) api.Errno {
	b, why := code.Encode(in)
	if why != api.OK {
		return why
	}
	if r.size+len(b) > api.MaxCode {
		return api.ErrLong
	}
	r.list = append(r.list, in)
	r.size += len(b)
	return api.OK
}

// lead leads the jumps to their labels; else the line of the first one that can't be led.
func (r *reader) lead() (int, api.Errno) {
	for _, j := range r.jumps {
		to, is := r.labels[j.label]
		if !is || to == r.size {
			return j.line, api.ErrLabel
		}
		r.list[j.place].A = to
	}
	return 0, api.OK
}
