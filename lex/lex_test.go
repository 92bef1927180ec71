package lex_test

import (
	"errors"
	"math"
	"slices"
	"strconv"
	"strings"
	"testing"

	"proviso/api"
	"proviso/lex"
)

// isScanned fails the test, if Scan does not answer what the document's words say.
func isScanned(t *testing.T, src string) api.Errno {
	t.Helper()
	want, err := scanned(src)
	l, f := scan(t, src)
	if !slices.Equal(l, want) || f != faultOf(t, err) {
		t.Fatalf("Scan(%q): %v, %v; want %v, %v", src, l, f, want, err)
	}
	return f.Why
}

func TestP10_1HeldAgainstItsWords(t *testing.T) {
	came := map[api.Errno]int{}
	for _, src := range someTexts(3, 30000) {
		came[isScanned(t, src)]++
	}
	for _, why := range []api.Errno{api.OK, api.ErrByte, api.ErrName, api.ErrNumber} {
		if came[why] < 1000 {
			t.Error(why, "hardly comes", came)
		}
	}
}

func TestP10_1EveryPairOfBytes(t *testing.T) {
	isScanned(t, "")
	for a := range 256 {
		isScanned(t, string([]byte{byte(a)}))
		for b := range 256 {
			isScanned(t, string([]byte{byte(a), byte(b)}))
		}
	}
}

func TestP10_1EveryShortText(t *testing.T) {
	parts := []string{"a", "_", "0", "9", "if", " ", "\n", "/", "//", "=", "!", "<", ">", "&", "|", "-", "#", "\xff", "é", "."}
	var each func(src string, n int)
	each = func(src string, n int) {
		isScanned(t, src)
		if n == 0 {
			return
		}
		for _, p := range parts {
			each(src+p, n-1)
		}
	}
	each("", 4)
}

func TestP10_1EveryWordAndMark(t *testing.T) {
	for s, kind := range kinds() {
		l, f := scan(t, " "+s)
		if f.Why != api.OK || len(l) != 1 || l[0] != (api.Token{Kind: kind, At: 1, End: 1 + len(s)}) {
			t.Error(s, l, f)
		}
	}
	for _, w := range words() {
		for _, name := range []string{w + "s_", w + "1", w + "X", "a" + w, strings.ToUpper(w), w[:1]} {
			l, f := scan(t, name)
			if f.Why != api.OK || len(l) != 1 || l[0] != (api.Token{Kind: api.TokName, End: len(name), Text: name}) {
				t.Error(name, l, f)
			}
		}
	}
}

func TestP10_1Names(t *testing.T) {
	a24 := strings.Repeat("a", 24)
	for _, x := range []struct {
		src  string
		at   int
		want api.Errno
	}{
		{a24, 0, api.OK},
		{a24 + "a", 0, api.ErrName},
		{a24 + "_", 0, api.ErrName},
		{a24 + "0", 0, api.ErrName},
		{a24 + "-a", 0, api.OK},
		{"b " + a24 + "a", 2, api.ErrName},
		{"_", 0, api.ErrName},
		{"b _a", 2, api.ErrName},
		{"a_", 0, api.OK},
		{"A9_z", 0, api.OK},
		{"_ #", 0, api.ErrName},
		{"# _", 0, api.ErrByte},
		{strings.Repeat("a", 65536), 0, api.ErrName},
		{"é", 0, api.ErrByte},
		{"aé", 1, api.ErrByte},
		{"a\xc3", 1, api.ErrByte},
	} {
		if _, f := scan(t, x.src); f != (api.Fault{At: x.at, Why: x.want}) {
			t.Errorf("%.40q: %v", x.src, f)
		}
		isScanned(t, x.src)
	}
}

func TestP10_1Numbers(t *testing.T) {
	for _, x := range []struct {
		src  string
		num  int
		want api.Errno
	}{
		{"0", 0, api.OK},
		{"00", 0, api.OK},
		{"2147483647", math.MaxInt32, api.OK},
		{"2147483648", 1 << 31, api.OK},
		{"2147483649", 0, api.ErrNumber},
		{"0002147483648", 1 << 31, api.OK},
		{"0002147483649", 0, api.ErrNumber},
		{"4294967296", 0, api.ErrNumber},
		{"4294967303", 0, api.ErrNumber},
		{"21474836480", 0, api.ErrNumber},
		{"9223372036854775807", 0, api.ErrNumber},
		{"18446744073709551616", 0, api.ErrNumber},
		{"18446744073709551617", 0, api.ErrNumber},
		{"1" + strings.Repeat("0", 65535), 0, api.ErrNumber},
		{strings.Repeat("0", 65535) + "7", 7, api.OK},
		{"12a", 0, api.ErrNumber},
		{"12_", 0, api.ErrNumber},
		{"0x1", 0, api.ErrNumber},
		{"1e5", 0, api.ErrNumber},
		{"2147483649a", 0, api.ErrNumber},
	} {
		l, f := scan(t, x.src)
		if f.At != 0 || f.Why != x.want || x.want == api.OK && (len(l) != 1 || l[0] != (api.Token{Kind: api.TokNum, End: len(x.src), Num: x.num})) {
			t.Errorf("%.40q: %v, %v", x.src, l, f)
		}
	}
	for n := range 3000 {
		if l, f := scan(t, strconv.Itoa(n*715827)); f.Why != api.OK || l[0].Num != n*715827 {
			t.Fatal(n, l, f)
		}
	}
	for _, src := range []string{"12é", "12\xff", "12 a", "12.a", "12-", "1/2", "1//a", "-5"} {
		isScanned(t, src)
	}
}

func TestP10_1LimitOfTheSource(t *testing.T) {
	for _, x := range []struct {
		src  string
		want api.Fault
	}{
		{strings.Repeat(" ", 65536), api.Fault{}},
		{strings.Repeat(" ", 65537), api.Fault{Why: api.ErrLong}},
		{"#" + strings.Repeat(" ", 65536), api.Fault{Why: api.ErrLong}},
		{strings.Repeat("#", 1<<20), api.Fault{Why: api.ErrLong}},
		{"//" + strings.Repeat("é", 32767), api.Fault{}},
		{"//" + strings.Repeat("\xff", 65534), api.Fault{}},
		{strings.Repeat(" ", 65535) + "#", api.Fault{At: 65535, Why: api.ErrByte}},
		{strings.Repeat(" ", 65533) + "a=&", api.Fault{At: 65535, Why: api.ErrByte}},
	} {
		if _, f := scan(t, x.src); f != x.want {
			t.Error(len(x.src), f, x.want)
		}
	}
	if l, f := scan(t, strings.Repeat(" ", 65535)+"a"); f.Why != api.OK || len(l) != 1 || l[0] != (api.Token{Kind: api.TokName, At: 65535, End: 65536, Text: "a"}) {
		t.Error(l, f)
	}
}

func TestP10_1LimitOfTheTokens(t *testing.T) {
	most := strings.Repeat(";", 16384)
	for _, behind := range []string{"", " ", "\n", "// x", " // #\n\n"} {
		if l, f := scan(t, most+behind); f.Why != api.OK || len(l) != 16384 {
			t.Error(len(l), f)
		}
	}
	for _, behind := range []string{";", "#", "_", "99999999999", strings.Repeat("a", 25), "&", "/", "\xff"} {
		if _, f := scan(t, most+" "+behind); f != (api.Fault{At: 16385, Why: api.ErrLong}) {
			t.Errorf("%q: %v", behind, f)
		}
		isScanned(t, most+" "+behind)
	}
	if _, f := scan(t, most[1:]+"#;;"); f != (api.Fault{At: 16383, Why: api.ErrByte}) {
		t.Error(f)
	}
	if l, f := scan(t, strings.Repeat("ab ", 16384)); f.Why != api.OK || len(l) != 16384 {
		t.Error(len(l), f)
	}
}

func TestP10_1RemarksAndTextsThatEnd(t *testing.T) {
	for src, want := range map[string][]int{
		"//":            nil,
		"// a\n":        nil,
		"a// b":         {api.TokName},
		"a//\rb":        {api.TokName},
		"a//\nb":        {api.TokName, api.TokName},
		"a/ /b":         {api.TokName, api.TokOver, api.TokOver, api.TokName},
		"///":           nil,
		"/\n/":          {api.TokOver, api.TokOver},
		"=//=\n=":       {api.TokSet, api.TokSet},
		"whi//\nle":     {api.TokName, api.TokName},
		"1//\n2":        {api.TokNum, api.TokNum},
		"\r\n\t a\r\n":  {api.TokName},
		"<=>=!===&&||=": {api.TokMost, api.TokLeast, api.TokUnlike, api.TokSame, api.TokAnd, api.TokOr, api.TokSet},
		"<>":            {api.TokLess, api.TokMore},
		"=<":            {api.TokSet, api.TokLess},
		"a.b[0]":        {api.TokName, api.TokDot, api.TokName, api.TokFrom, api.TokNum, api.TokTo},
		"-2147483648":   {api.TokMinus, api.TokNum},
	} {
		l, f := scan(t, src)
		if f.Why != api.OK || !slices.EqualFunc(l, want, func(x api.Token, kind int) bool { return x.Kind == kind }) {
			t.Errorf("%q: %v, %v", src, l, f)
		}
	}
	for src, at := range map[string]int{"&": 0, "a &": 2, "&&&": 2, "|": 0, "|||": 2, "& &": 0, "&|": 0, "a\x00": 1, "\v": 0, "\f": 0, "\u00a0": 0, "\ufeffa": 0, "\"a\"": 0, "a ? b": 2, "\x85": 0, "@": 0, "`": 0, "^": 0, "~": 0, "\\": 0, "$": 0, "'": 0, "\x7f": 0} {
		if _, f := scan(t, src); f != (api.Fault{At: at, Why: api.ErrByte}) {
			t.Errorf("%q: %v", src, f)
		}
	}
}

// TestP10_1TheNumberOfAFault: no other number of api's is found in it.
func TestP10_1TheNumberOfAFault(t *testing.T) {
	for src, want := range map[string]api.Errno{"#": api.ErrByte, "1a": api.ErrNumber, "_": api.ErrName, strings.Repeat(" ", 65537): api.ErrLong} {
		_, err := lex.Scan(src)
		for n := range api.Errno(300) {
			if errors.Is(err, n) != (n == want) {
				t.Error(want, n)
			}
		}
	}
}

func TestP10_2Word(t *testing.T) {
	table := map[int]string{}
	for s, kind := range kinds() {
		table[kind] = s
	}
	for kind := -300; kind <= 300; kind++ {
		if w := lex.Word(kind); w != table[kind] {
			t.Error(kind, w)
		}
	}
	for _, kind := range []int{math.MinInt, math.MaxInt, math.MinInt32, math.MaxInt32, 1 << 32, 1<<32 + 3, api.TokName, api.TokNum, 0} {
		if w := lex.Word(kind); w != "" {
			t.Error(kind, w)
		}
	}
	if lex.Word(api.TokOr) != "||" || lex.Word(api.TokAny) != "any" || lex.Word(api.TokWhile) != "while" || lex.Word(api.TokLeft) != "(" || lex.Word(api.NumTok) != "" {
		t.Error("the ends of the list")
	}
}

func TestP10_2Kind(t *testing.T) {
	for s, want := range kinds() {
		if kind, is := lex.Kind(s); kind != want || !is {
			t.Error(s, kind, is)
		}
	}
	for _, s := range []string{"", " ", "x", "While", "while ", " while", "whil", "whiles", "&", "|", "===", "//", "7", "()", "\x00", "é", strings.Repeat("a", 1<<16)} {
		if kind, is := lex.Kind(s); kind != 0 || is {
			t.Errorf("%.40q: %d", s, kind)
		}
	}
	want := kinds()
	for pair := range 1 << 16 {
		s := string([]byte{byte(pair >> 8), byte(pair)})
		if kind, is := lex.Kind(s); kind != want[s] || is != (want[s] != 0) {
			t.Fatal(s, kind, is)
		}
	}
}

// lineOf is P10.3, word by word.
func lineOf(src string, at int) (int, int) {
	at = max(0, min(at, len(src)))
	line, since := 1, 0
	for i := range at {
		since++
		if src[i] == 10 {
			line, since = line+1, 0
		}
	}
	return line, since + 1
}

func TestP10_3Line(t *testing.T) {
	for _, src := range append(someTexts(5, 500), "", "\n", "\n\n", "a\nbc", "\r\n\r\n", "é\né\n", "\xff\n\xff", strings.Repeat("a\n", 99)) {
		for _, at := range []int{math.MinInt, math.MinInt32, -2, -1, len(src) + 1, len(src) + 2, 1 << 32, math.MaxInt} {
			a, b := lex.Line(src, at)
			if c, d := lineOf(src, at); a != c || b != d {
				t.Fatalf("%q at %d: %d, %d", src, at, a, b)
			}
		}
		for at := range len(src) + 1 {
			a, b := lex.Line(src, at)
			if c, d := lineOf(src, at); a != c || b != d {
				t.Fatalf("%q at %d: %d, %d", src, at, a, b)
			}
		}
	}
	for _, x := range []struct{ at, line, in int }{{0, 1, 1}, {1, 1, 2}, {2, 2, 1}, {3, 2, 2}, {4, 2, 3}, {-7, 1, 1}, {99, 2, 3}} {
		if line, in := lex.Line("a\nbc", x.at); line != x.line || in != x.in {
			t.Error(x, line, in)
		}
	}
	long := strings.Repeat("\n", 1<<17)
	if line, in := lex.Line(long, 1<<17); line != 1<<17+1 || in != 1 {
		t.Error("a text that is too long to be scanned has lines, too", line, in)
	}
}

func TestExamplesOfChapter10(t *testing.T) {
	l, f := scan(t, "a1 <= 07; // x")
	want := []api.Token{{Kind: api.TokName, At: 0, End: 2, Text: "a1"}, {Kind: api.TokMost, At: 3, End: 5}, {Kind: api.TokNum, At: 6, End: 8, Num: 7}, {Kind: api.TokSemi, At: 8, End: 9}}
	if !slices.Equal(l, want) || f.Why != api.OK {
		t.Error(l, f)
	}
	for src, want := range map[string]api.Fault{
		"x&y":                   {At: 1, Why: api.ErrByte},
		"12a":                   {At: 0, Why: api.ErrNumber},
		"2147483648":            {},
		"2147483649":            {At: 0, Why: api.ErrNumber},
		strings.Repeat("a", 25): {At: 0, Why: api.ErrName},
		"#":                     {At: 0, Why: api.ErrByte},
		"":                      {},
	} {
		if _, f := scan(t, src); f != want {
			t.Error(src, f)
		}
	}
	for src, want := range map[string][]int{"===": {api.TokSame, api.TokSet}, "!!=": {api.TokNot, api.TokUnlike}, "fun fund": {api.TokFun, api.TokName}, "/ / //": {api.TokOver, api.TokOver}, "": nil} {
		l, _ := scan(t, src)
		if !slices.EqualFunc(l, want, func(x api.Token, kind int) bool { return x.Kind == kind }) {
			t.Error(src, l)
		}
	}
}
