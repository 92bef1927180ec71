package desk

import (
	"strconv"
	"strings"

	"proviso/api"
	"proviso/wire"
)

// maxDigits is how many digits a number has at most.
const maxDigits = 9

// order is what stands behind a command's word.
type order struct {
	name     string // N
	function string // F
	numbers  []int
	text     string
}

// command is what a command wants behind its word, and what it does; the zero one is none.
type command struct {
	does        func(*desk, order) (string, error)
	functions   int // names of functions, behind N
	least, most int // numbers, behind these
	text        bool
}

// play does what a line says, if it is a line of this command.
func (c command) play(d *desk, line string) (string, error) {
	if c.does == nil {
		return "", api.ErrCommand
	}
	o, is := c.order(line)
	if !is {
		return "", api.ErrCommand
	}
	return c.does(d, o)
}

// order reads a line's words: false, if they are not what the command wants.
func (c command) order(line string) (order, bool) {
	if c.text {
		return withText(line)
	}
	words := strings.Split(line, " ")[1:]
	names := 1 + c.functions
	if count := len(words) - names; count < c.least || count > c.most {
		return order{}, false
	}
	o := order{name: words[0]}
	if c.functions > 0 {
		o.function = words[1]
	}
	for _, word := range words[:names] {
		if !wire.IsName(word) {
			return order{}, false
		}
	}
	var is bool
	o.numbers, is = numbers(words[names:])
	return o, is
}

// withText reads a line in whose text blanks part nothing.
func withText(line string) (order, bool) {
	_, rest, _ := strings.Cut(line, " ")
	name, text, _ := strings.Cut(rest, " ")
	return order{name: name, text: text}, wire.IsName(name)
}

// numbers are those that words are: false, if one is none.
func numbers(words []string) ([]int, bool) {
	var l []int
	for _, word := range words {
		if !isNumber(word) {
			return nil, false
		}
		n, _ := strconv.Atoi(word) // nine digits fit
		l = append(l, n)
	}
	return l, true
}

func isNumber(word string) bool {
	digits := strings.TrimPrefix(word, "-")
	if digits == "" || len(digits) > maxDigits || digits[0] == '0' && word != "0" {
		return false
	}
	for i := range len(digits) {
		if digits[i] < '0' || digits[i] > '9' {
			return false
		}
	}
	return true
}

// answerOf is a word with numbers behind.
func answerOf(word string, numbers ...int) string {
	words := []string{word}
	for _, n := range numbers {
		words = append(words, strconv.Itoa(n))
	}
	return strings.Join(words, " ")
}

// ran is the answer of a run; an error, if it did not begin.
func ran(o api.Outcome) (string, error) {
	var answer string
	switch o.Err {
	case api.OK:
		answer = answerOf("ok", o.Result)
	case api.ErrTrap:
		answer = answerOf("trap", o.Trap)
	case api.ErrFuel:
		answer = "fuel"
	case api.ErrStuck:
		answer = "stuck"
	default:
		return "", o.Err
	}
	if len(o.Told) > 0 {
		answer += " " + answerOf("told", o.Told...)
	}
	return answer, nil
}
