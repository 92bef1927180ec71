package code_test

import (
	"math"
	"strings"
	"testing"

	"proviso/api"
	"proviso/code"
)

// dice throws the same numbers at every run.
type dice uint64

func (d *dice) below(n int) int {
	*d = *d*6364136223846793005 + 1442695040888963407
	return int(uint64(*d) >> 33 % uint64(n))
}

// told is chapter 4.1's table once more: each instruction's word, and behind it the bytes of A, or of A and B (b: a bool's).
const told = `nop/int 4/bool b/null/load 1/store 1/pop/dup/swap/add/sub/mul/div/rem/neg/less/same/not/is/jump 2/unless 2/call 1/return/new 1/get 1 1/put 1 1/make/len/at/set/cast 1/test 1/trap 1/tell`

// row is an instruction as the table has it; its operands as words.
type row struct {
	op   byte
	word string
	has  []string
}

func rows() []row {
	var all []row
	for i, line := range strings.Split(told, "/") {
		w := strings.Fields(line)
		all = append(all, row{byte(i), w[0], w[1:]})
	}
	return all
}

// bounds are an operand's size and range, by its word in the table; of the empty word those of one that is not there.
func bounds(word string) (size, least, most int) {
	switch word {
	case "b":
		return 1, 0, 1
	case "1":
		return 1, 0, 255
	case "2":
		return 2, 0, 65535
	case "4":
		return 4, -2147483648, 2147483647
	}
	return 0, 0, 0
}

func (r row) operand(i int) string {
	if i < len(r.has) {
		return r.has[i]
	}
	return ""
}

func (r row) size() int {
	n := 1
	for _, word := range r.has {
		size, _, _ := bounds(word)
		n += size
	}
	return n
}

// instr is one of the row's, with operands as the dice fall: their ends often.
func (r row) instr(d *dice) api.Instr {
	one := func(word string) int {
		_, least, most := bounds(word)
		switch d.below(4) {
		case 0:
			return least
		case 1:
			return most
		}
		return least + (d.below(1<<31)*2+d.below(2))%(most-least+1) // one throw alone would not come to the higher half of int's
	}
	return api.Instr{Op: r.op, A: one(r.operand(0)), B: one(r.operand(1))}
}

// bytesOf is an instruction's bytes, by the table.
func (r row) bytesOf(in api.Instr) []byte {
	b := []byte{r.op}
	for i, n := range []int{in.A, in.B} {
		size, _, _ := bounds(r.operand(i))
		for k := size - 1; k >= 0; k-- {
			b = append(b, byte(uint32(n)>>(8*k)))
		}
	}
	return b
}

// numbers are all edges of all ranges, and what lies just past them, and huge ones.
func numbers() []int {
	all := []int{math.MinInt, math.MinInt + 1, math.MaxInt, math.MaxInt - 1}
	for _, edge := range []int{0, 1, 255, 256, 65535, 65536, math.MaxInt32, math.MinInt32, math.MaxUint32, -256, -65536, 1 << 40, -1 << 40} {
		all = append(all, edge-1, edge, edge+1)
	}
	return all
}

func TestTheTableIsApis(t *testing.T) {
	if len(rows()) != int(api.NumOps) {
		t.Fatal(len(rows()))
	}
}

func TestP4_1Size(t *testing.T) {
	for _, r := range rows() {
		if n := code.Size(r.op); n != r.size() {
			t.Error(r.word, n)
		}
	}
	for op := 34; op < 256; op++ {
		if n := code.Size(byte(op)); n != 0 {
			t.Error(op, n)
		}
	}
}

func TestP4_1Name(t *testing.T) {
	for _, r := range rows() {
		if s := code.Name(r.op); s != r.word {
			t.Error(r.op, s)
		}
	}
	for op := 34; op < 256; op++ {
		if s := code.Name(byte(op)); s != "" {
			t.Error(op, s)
		}
	}
}

func TestP4_1Op(t *testing.T) {
	for _, r := range rows() {
		if op, ok := code.Op(r.word); op != r.op || !ok {
			t.Error(r.word, op, ok)
		}
		for _, s := range []string{r.word + " ", " " + r.word, strings.ToUpper(r.word), r.word + "x", r.word + "\x00"} {
			if op, ok := code.Op(s); op != 0 || ok {
				t.Errorf("%q: %d", s, op)
			}
		}
	}
	for _, s := range []string{"", "n", "no", "nopnop", "goto", "34", "0", "ints", "\xff", strings.Repeat("a", 1<<20)} {
		if op, ok := code.Op(s); op != 0 || ok {
			t.Errorf("%.20q: %d", s, op)
		}
	}
}

func TestP4_1JumpsAndEnds(t *testing.T) {
	for op := range 256 {
		word := code.Name(byte(op))
		if got, want := code.Jumps(byte(op)), word == "jump" || word == "unless"; got != want {
			t.Error("Jumps", op, got)
		}
		if got, want := code.Ends(byte(op)), word == "jump" || word == "return" || word == "trap"; got != want {
			t.Error("Ends", op, got)
		}
	}
}

func TestP4_8Words(t *testing.T) {
	seen := map[string]int{}
	for op := range int(api.NumOps) {
		word := code.Name(byte(op))
		if back, ok := code.Op(word); !ok || back != byte(op) || word == "" {
			t.Error(op, word, back, ok)
		}
		if other, twice := seen[word]; twice {
			t.Error(op, other, "have one word", word)
		}
		seen[word] = op
	}
}
