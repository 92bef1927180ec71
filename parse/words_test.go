package parse_test

import (
	"strings"

	"proviso/api"
	"proviso/lex"
)

// grammar is chapter 11's, but that the statement of an expression is told by what may stand ahead of its mark: never is no token's kind.
const grammar = `
program = { record | fun }
record  = "record" name [ ":" name ] "{" [ field { "," field } ] "}"
field   = name type
type    = "int" | "bool" | "ints" | "any" | name
fun     = "fun" name "(" [ field { "," field } ] ")" [ type ] block
block   = "{" { stmt } "}"
stmt    = "var" name type "=" expr ";" | if | "while" expr block | "break" ";" | "continue" ";" | "return" [ expr ] ";" | "tell" expr ";" | "fail" number ";" | call ";" | place "=" expr ";" | expr never
if      = "if" expr block [ "else" ( if | block ) ]
expr    = both { "||" both }
both    = held { "&&" held }
held    = sum [ ( "<" | "<=" | ">" | ">=" | "==" | "!=" ) sum ]
sum     = term { ( "+" | "-" ) term }
term    = unary { ( "*" | "/" | "%" ) unary }
unary   = ( "-" | "!" ) unary | tail
tail    = prime { "." name | "[" expr "]" | "as" name | "is" name }
prime   = number | "true" | "false" | "null" | name [ "(" [ expr { "," expr } ] ")" ] | "new" ( name | "ints" "(" expr ")" ) | "len" "(" expr ")" | "(" expr ")"
call    = name "(" [ expr { "," expr } ] ")" | "(" call ")"
place   = name | tail "." name | tail "[" expr "]" | "(" place ")"
`

// symbol is a token's kind, or (below 0) a part of the grammar.
type symbol int

// rules are a grammar's parts, each with its ways.
type rules struct {
	parts map[string]symbol
	ways  [][][]symbol // of part -1-i
	words []string     // those that are not yet read
}

// chapter reads the grammar.
func chapter() *rules {
	r := &rules{parts: map[string]symbol{}}
	for line := range strings.Lines(strings.TrimSpace(grammar)) {
		name, _, _ := strings.Cut(line, " ")
		r.part(name)
	}
	for line := range strings.Lines(strings.TrimSpace(grammar)) {
		r.words = strings.Fields(line)
		name := r.words[0]
		r.words = r.words[2:]
		r.ways[-1-r.parts[name]] = r.either()
	}
	return r
}

func (r *rules) part(name string) symbol {
	s := symbol(-1 - len(r.ways))
	r.parts[name] = s
	r.ways = append(r.ways, nil)
	return s
}

// inner is a part without a name.
func (r *rules) inner(ways ...[]symbol) symbol {
	s := symbol(-1 - len(r.ways))
	r.ways = append(r.ways, ways)
	return s
}

func (r *rules) either() [][]symbol {
	ways := [][]symbol{nil}
	for len(r.words) > 0 {
		w := r.words[0]
		r.words = r.words[1:]
		last := len(ways) - 1
		switch w {
		case "|":
			ways = append(ways, nil)
		case ")", "]", "}":
			return ways
		case "(":
			ways[last] = append(ways[last], r.inner(r.either()...))
		case "[":
			ways[last] = append(ways[last], r.inner(append(r.either(), nil)...))
		case "{":
			more := r.inner()
			for _, l := range r.either() {
				r.ways[-1-more] = append(r.ways[-1-more], append(l, more))
			}
			r.ways[-1-more] = append(r.ways[-1-more], nil)
			ways[last] = append(ways[last], more)
		default:
			ways[last] = append(ways[last], r.symbol(w))
		}
	}
	return ways
}

func (r *rules) symbol(w string) symbol {
	switch w {
	case "name":
		return api.TokName
	case "number":
		return api.TokNum
	case "never":
		return api.NumTok
	}
	if s, is := r.parts[w]; is {
		return s
	}
	kind, is := lex.Kind(strings.Trim(w, `"`))
	if !is {
		panic(w)
	}
	return symbol(kind)
}

// item is a way of a part of which so much was read, from a token on.
type item struct{ part, way, read, from int }

// chart is what a row of tokens may be: of each of them, and of none, what may be begun or ended behind it.
type chart struct {
	r    *rules
	sets []map[item]struct{}
}

func (r *rules) begin(part string) *chart {
	c := &chart{r: r}
	i := int(-1 - r.parts[part])
	set := map[item]struct{}{}
	for w := range r.ways[i] {
		set[item{i, w, 0, 0}] = struct{}{}
	}
	c.sets = append(c.sets, set)
	c.close()
	return c
}

// close adds to the last set all that follows from it.
func (c *chart) close() {
	last := len(c.sets) - 1
	set := c.sets[last]
	var work []item
	for x := range set {
		work = append(work, x)
	}
	add := func(x item) {
		if _, is := set[x]; !is {
			set[x] = struct{}{}
			work = append(work, x)
		}
	}
	for len(work) > 0 {
		x := work[len(work)-1]
		work = work[:len(work)-1]
		way := c.r.ways[x.part][x.way]
		if x.read < len(way) {
			if s := way[x.read]; s < 0 {
				for w := range c.r.ways[-1-s] {
					add(item{int(-1 - s), w, 0, last})
				}
				if c.ended(int(-1-s), last) {
					add(item{x.part, x.way, x.read + 1, x.from})
				}
			}
			continue
		}
		for y := range c.sets[x.from] {
			if l := c.r.ways[y.part][y.way]; y.read < len(l) && l[y.read] == symbol(-1-x.part) {
				add(item{y.part, y.way, y.read + 1, y.from})
			}
		}
	}
}

// ended tells whether a part that was begun at a token has come to its end.
func (c *chart) ended(part, from int) bool {
	for w, l := range c.r.ways[part] {
		if _, is := c.sets[len(c.sets)-1][item{part, w, len(l), from}]; is {
			return true
		}
	}
	return false
}

// read tells whether a token may stand there; if so, it is read.
func (c *chart) read(kind int) bool {
	set := map[item]struct{}{}
	for x := range c.sets[len(c.sets)-1] {
		if l := c.r.ways[x.part][x.way]; x.read < len(l) && l[x.read] == symbol(kind) {
			set[item{x.part, x.way, x.read + 1, x.from}] = struct{}{}
		}
	}
	if len(set) == 0 {
		return false
	}
	c.sets = append(c.sets, set)
	c.close()
	return true
}

func (c *chart) unread() { c.sets = c.sets[:len(c.sets)-1] }

// whole tells whether what was read is all of a part.
func (c *chart) whole(part string) bool { return c.ended(int(-1-c.r.parts[part]), 0) }

// firstWrong is the number of the first token that can't stand in a part; -1, if there is none, and how many there are, if the last one can't be the last.
func (r *rules) firstWrong(part string, tokens []api.Token) int {
	c := r.begin(part)
	for i, t := range tokens {
		if !c.read(t.Kind) {
			return i
		}
	}
	if !c.whole(part) {
		return len(tokens)
	}
	return -1
}
