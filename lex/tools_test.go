package lex_test

import (
	"errors"
	"math/big"
	"regexp"
	"strings"
	"testing"

	"proviso/api"
	"proviso/lex"
)

// dice throws the same numbers at every run.
type dice uint64

func (d *dice) below(n int) int {
	*d = *d*6364136223846793005 + 1442695040888963407
	return int(uint64(*d) >> 33 % uint64(n))
}

func pick[T any](d *dice, l []T) T { return l[d.below(len(l))] }

// words and marks are those of chapter 10.1, in its order.
func words() []string {
	return strings.Fields("any as bool break continue else fail false fun if int ints is len new null record return tell true var while")
}

func marks() []string {
	return strings.Fields("( ) { } [ ] , ; : . = == != ! < <= > >= + - * / % && ||")
}

func kinds() map[string]int {
	all := map[string]int{}
	for i, w := range append(words(), marks()...) {
		all[w] = api.TokAny + i
	}
	return all
}

var (
	blanks  = regexp.MustCompile(`(?s)^(?:[ \t\n\r]|//[^\n]*)*`)
	aWord   = regexp.MustCompile(`^[A-Za-z_][A-Za-z0-9_]*`)
	aNumber = regexp.MustCompile(`^[0-9]+`)
	aName   = regexp.MustCompile(`^[A-Za-z][A-Za-z0-9_]{0,23}$`)
)

// scanned is P10.1, word by word; by regular expressions, of a text whose bytes are taken for letters one by one.
func scanned(src string) ([]api.Token, error) {
	if len(src) > 65536 {
		return nil, api.Fault{At: 0, Why: api.ErrLong}
	}
	said, table := ascii(src), kinds()
	var all []api.Token
	for at := len(blanks.FindString(said)); at < len(said); at += len(blanks.FindString(said[at:])) {
		if len(all) == 16384 {
			return nil, api.Fault{At: at, Why: api.ErrLong}
		}
		t, why := tokenAt(said, at, table)
		if why != api.OK {
			return nil, api.Fault{At: at, Why: why}
		}
		all = append(all, t)
		at = t.End
	}
	return all, nil
}

// ascii is a text of as many bytes, with a byte that begins nothing for each that is no character of seven bits.
func ascii(src string) string {
	b := []byte(src)
	for i, x := range b {
		if x > 127 {
			b[i] = 1
		}
	}
	return string(b)
}

func tokenAt(src string, at int, table map[string]int) (api.Token, api.Errno) {
	rest := src[at:]
	if w := aWord.FindString(rest); w != "" {
		t := api.Token{Kind: table[w], At: at, End: at + len(w)}
		if t.Kind == 0 {
			t.Kind, t.Text = api.TokName, w
			if !aName.MatchString(w) {
				return api.Token{}, api.ErrName
			}
		}
		return t, api.OK
	}
	if w := aNumber.FindString(rest); w != "" {
		n, _ := new(big.Int).SetString(w, 10)
		if n.Cmp(big.NewInt(1<<31)) > 0 || aWord.MatchString(rest[len(w):]) {
			return api.Token{}, api.ErrNumber
		}
		return api.Token{Kind: api.TokNum, At: at, End: at + len(w), Num: int(n.Int64())}, api.OK
	}
	for n := min(2, len(rest)); n > 0; n-- {
		if kind := table[rest[:n]]; kind != 0 {
			return api.Token{Kind: kind, At: at, End: at + n}, api.OK
		}
	}
	return api.Token{}, api.ErrByte
}

// faultOf is the fault of an error, which is nil, or an api.Fault, as a value; OK of none.
func faultOf(t *testing.T, err error) api.Fault {
	t.Helper()
	if err == nil {
		return api.Fault{}
	}
	f, is := err.(api.Fault)
	if !is {
		t.Fatalf("%T", err)
	}
	var found api.Fault
	if !errors.As(err, &found) || found != f || !errors.Is(err, f.Why) {
		t.Fatal(err)
	}
	return f
}

// scan is Scan's answer, beside which, where there is a fault, nothing is.
func scan(t *testing.T, src string) ([]api.Token, api.Fault) {
	t.Helper()
	l, err := lex.Scan(src)
	f := faultOf(t, err)
	if err != nil && len(l) != 0 {
		t.Fatal("tokens beside a fault", l, err)
	}
	return l, f
}

// piece is a part of a text; now and then one that is none.
func piece(d *dice) string {
	switch d.below(12) {
	case 0, 1:
		return pick(d, words())
	case 2, 3, 4:
		return pick(d, marks())
	case 5:
		return pick(d, []string{"0", "7", "007", "42", "2147483647", "2147483648", "02147483648", "2147483649", "99999999999999999999"})
	case 6:
		return pick(d, []string{"// remark\n", "//\n", "// a // b\n", "//\xff\xc3\x28é\n", "// no end"})
	case 7:
		return pick(d, []string{" ", "\n", "\t", "\r", "\r\n", "  "})
	case 8:
		return pick(d, []string{"&", "|", "#", "\x00", "\xff", "é", "\u2028", "\u00a0", "_", "_a", "ａ", "٣", "\"", "'", "~", "\v", "\f"})
	}
	b := []byte{pick(d, []byte("abzABZf"))}
	for range d.below(26) {
		b = append(b, pick(d, []byte("abzABZ019_")))
	}
	return string(b)
}

// someTexts are texts of a few pieces; how often a blank stands between two of them, the dice say.
func someTexts(seed dice, n int) []string {
	d := seed
	var all []string
	for range n {
		var b strings.Builder
		near := d.below(3)
		for range d.below(12) {
			b.WriteString(piece(&d))
			if d.below(3) >= near {
				b.WriteString(pick(&d, []string{" ", "\n", "\t", "\r\n", "  ", " // x\n"}))
			}
		}
		all = append(all, b.String())
	}
	return all
}

// taken yields those of some texts that Scan takes, with their tokens.
func taken(t *testing.T, seed dice, n int) func(yield func(src string, l []api.Token) bool) {
	return func(yield func(src string, l []api.Token) bool) {
		came := 0
		for _, src := range someTexts(seed, n) {
			l, f := scan(t, src)
			if f.Why != api.OK {
				continue
			}
			came++
			if !yield(src, l) {
				return
			}
		}
		if came < n/8 {
			t.Error("few are taken:", came, "of", n)
		}
	}
}
