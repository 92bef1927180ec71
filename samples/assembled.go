package samples

import (
	"strconv"
	"strings"

	"proviso/api"
	"proviso/code"
)

// Assembled is the code of a text: instructions with a ; between, each its word and its operands; false, if that is none.
func Assembled(text string) ([]byte, bool) {
	var l []api.Instr
	for _, line := range strings.Split(text, ";") {
		words := strings.Fields(line)
		if len(words) == 0 {
			continue
		}
		op, is := code.Op(words[0])
		var operands [2]int
		for i, w := range words[1:] {
			n, err := strconv.Atoi(w)
			if err != nil || i >= len(operands) {
				return nil, false
			}
			operands[i] = n
		}
		if !is {
			return nil, false
		}
		l = append(l, api.Instr{Op: op, A: operands[0], B: operands[1]})
	}
	b, _, why := code.All(l)
	return b, why == api.OK
}
