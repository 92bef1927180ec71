package gen_test

import (
	"errors"
	"fmt"
	"slices"
	"strings"
	"testing"

	"proviso/api"
	"proviso/check"
	"proviso/gen"
	"proviso/lex"
	"proviso/parse"
	"proviso/samples"
)

type dice = samples.Dice

func pick[T any](d *dice, l []T) T { return l[d.Below(len(l))] }

// show is all fields of a module; an empty list is none.
func show(m api.Module) string { return fmt.Sprintf("%+v", m) }

// faultOf is the fault that an error is, as a value; beside one the module must be zero.
func faultOf(t *testing.T, m api.Module, err error) api.Fault {
	t.Helper()
	if err == nil {
		return api.Fault{}
	}
	f, is := err.(api.Fault)
	if !is || f.Why == api.OK || !errors.Is(err, f.Why) {
		t.Fatalf("no fault: %v", err)
	}
	if show(m) != show(api.Module{}) {
		t.Fatalf("a module beside %v: %v", f, m)
	}
	return f
}

// parsed is the tree of a text that must have one.
func parsed(t *testing.T, src string) api.Program {
	t.Helper()
	p, err := parse.Parse(src)
	if err != nil {
		t.Fatalf("%.300s: %v", src, err)
	}
	return p
}

// good is the module of a text that must have one.
func good(t *testing.T, src string) api.Module {
	t.Helper()
	m, err := gen.Compile("m", src)
	if err != nil {
		t.Fatalf("%.300s: %v", src, err)
	}
	return m
}

// isFault tries a text with one @ in it, where the fault must be told; it is taken out.
func isFault(t *testing.T, src string, why api.Errno) {
	t.Helper()
	if strings.Count(src, "@") != 1 {
		t.Fatal("no place: ", src)
	}
	want := api.Fault{At: strings.Index(src, "@"), Why: why}
	m, err := gen.Compile("m", strings.Replace(src, "@", "", 1))
	if f := faultOf(t, m, err); f != want {
		t.Errorf("%.200s: %v, wanted %v", src, f, want)
	}
}

// answer is what the document says of a text: the layers below are asked for their faults.
func answer(name, src string) (api.Module, api.Fault) {
	var f api.Fault
	p, err := parse.Parse(src)
	if err == nil {
		p, err = check.Check(p)
	}
	if errors.As(err, &f) {
		return api.Module{}, f
	}
	return meant(name, p)
}

// isMeant holds Compile and Gen of a text against the document's words.
func isMeant(t *testing.T, src string) api.Fault {
	t.Helper()
	want, fault := answer("mod", src)
	m, err := gen.Compile("mod", src)
	if f := faultOf(t, m, err); f != fault || show(m) != show(want) {
		t.Fatalf("%s\n%v %v\nwanted\n%v %v", src, m, f, want, fault)
	}
	p, err := parse.Parse(src)
	if err != nil {
		return fault
	}
	trees := []api.Program{p}
	if q, err := check.Check(p); err == nil {
		trees = append(trees, q)
	}
	for _, p := range trees {
		m, err := gen.Gen("mod", p)
		if f := faultOf(t, m, err); f != fault || show(m) != show(want) {
			t.Fatalf("%s\nGen: %v %v\nwanted\n%v %v", src, m, f, want, fault)
		}
	}
	return fault
}

// isCode holds the code of a text's last function against lines, with the words of the instructions and the addresses that jumps lead to.
func isCode(t *testing.T, src, lines string) {
	t.Helper()
	m := good(t, src)
	want, _ := assembled(strings.Split(lines, "; "))
	if got := m.Funcs[len(m.Funcs)-1].Code; !slices.Equal(got, want) {
		t.Errorf("%s\n% x\nwanted %s\n% x", src, got, lines, want)
	}
}

// turned is a text with one of its tokens exchanged for another one, of its own kind more often than not, taken out or put in twice.
func turned(d *dice, src string) string {
	l, _ := lex.Scan(src)
	var words []string
	for _, x := range l {
		words = append(words, src[x.At:x.End])
	}
	i, j := d.Below(len(l)), d.Below(len(l))
	for range 30 {
		if l[i].Kind == api.TokName && l[j].Kind == api.TokName && words[i] != words[j] {
			break
		}
		i, j = d.Below(len(l)), d.Below(len(l))
	}
	switch d.Below(12) {
	case 0:
		words = slices.Delete(words, i, i+1)
	case 1:
		words = slices.Insert(words, j, words[d.Below(len(l))])
	default:
		words[i] = words[j]
	}
	return strings.Join(words, " ")
}
