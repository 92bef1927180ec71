package desk_test

import (
	"fmt"
	"regexp"
	"strings"

	"proviso/api"
	"proviso/asm"
	"proviso/check"
	"proviso/gen"
	"proviso/infer"
	"proviso/machine"
	"proviso/meaning"
	"proviso/module"
	"proviso/onepass"
	"proviso/opt"
	"proviso/parse"
)

// Chapter 25 over again, by its words.

const (
	nameForm   = ` ([a-zA-Z][a-zA-Z0-9_]{0,23})`
	numberForm = ` (?:0|-?[1-9][0-9]{0,8})`
)

// forms are the lines of the commands, by their words.
var forms = map[string]*regexp.Regexp{
	"source":  regexp.MustCompile(`(?s)\Asource` + nameForm + `(?: (.*))?\z`),
	"compile": regexp.MustCompile(`\Acompile` + nameForm + `\z`),
	"infer":   regexp.MustCompile(`\Ainfer` + nameForm + `\z`),
	"tune":    regexp.MustCompile(`\Atune` + nameForm + `\z`),
	"ship":    regexp.MustCompile(`\Aship` + nameForm + `\z`),
	"turn":    regexp.MustCompile(`\Aturn` + nameForm + `((?:` + numberForm + `){2})\z`),
	"load":    regexp.MustCompile(`\Aload` + nameForm + `\z`),
	"check":   regexp.MustCompile(`\Acheck` + nameForm + `\z`),
	"run":     regexp.MustCompile(`\Arun` + nameForm + nameForm + `((?:` + numberForm + `){0,8})\z`),
	"bare":    regexp.MustCompile(`\Abare` + nameForm + nameForm + `((?:` + numberForm + `){0,8})\z`),
	"mean":    regexp.MustCompile(`\Amean` + nameForm + nameForm + `((?:` + numberForm + `){0,8})\z`),
	"list":    regexp.MustCompile(`\Alist` + nameForm + nameForm + `\z`),
}

type model struct {
	sources map[string]string
	modules map[string]api.Module
	files   map[string][]byte
}

func newModel() *model {
	return &model{map[string]string{}, map[string]api.Module{}, map[string][]byte{}}
}

// runTold is P25.1.
func runTold(script string) ([]string, error) {
	if len(script) > 65536 {
		return nil, api.Trouble{Fault: api.Fault{Why: api.ErrLong}}
	}
	m := newModel()
	var answers []string
	for i, text := range strings.Split(script, "\n") {
		if text == "" {
			continue
		}
		word := strings.SplitN(text, " ", 2)[0]
		answer, why := m.line(word, text)
		if why != api.OK {
			return nil, api.Trouble{In: word, Fault: api.Fault{At: i + 1, Why: why}}
		}
		if word != "source" {
			answers = append(answers, answer)
		}
	}
	return answers, nil
}

// line is what a line answers, or its trouble.
func (m *model) line(word, text string) (string, api.Errno) {
	form, is := forms[word]
	if !is {
		return "", api.ErrCommand
	}
	parts := form.FindStringSubmatch(text)
	if parts == nil {
		return "", api.ErrCommand
	}
	name := parts[1]
	_, isSource := m.sources[name]
	_, isModule := m.modules[name]
	_, isFile := m.files[name]
	switch word {
	case "source":
		m.sources[name] = parts[2]
		return "", api.OK
	case "compile":
		if !isSource {
			return "", api.ErrThing
		}
		return m.compile(name), api.OK
	case "mean":
		if !isSource {
			return "", api.ErrThing
		}
		return m.mean(name, parts[2], parts[3])
	case "turn", "load":
		if !isFile {
			return "", api.ErrThing
		}
		return m.file(word, name, parts), api.OK
	}
	if !isModule {
		return "", api.ErrThing
	}
	if len(parts) == 2 {
		return m.whole(word, name), api.OK
	}
	for fn, f := range m.modules[name].Funcs {
		if f.Name == parts[2] {
			return m.function(word, name, fn, parts[len(parts)-1]), api.OK
		}
	}
	return "", api.ErrThing
}

func failed(why api.Errno) string { return fmt.Sprint("error ", int(why)) }

func (m *model) compile(name string) string {
	made, err := gen.Compile(name, m.sources[name])
	if err != nil {
		return failed(err.(api.Fault).Why)
	}
	m.modules[name] = made
	return fmt.Sprint("module ", len(made.Funcs))
}

// file is what is done to a file.
func (m *model) file(word, name string, parts []string) string {
	b := m.files[name]
	if word == "load" {
		made, _, why := module.Decode(b)
		if why != api.OK {
			return failed(why)
		}
		m.modules[name] = made
		return fmt.Sprint("loaded ", len(made.Funcs))
	}
	l := numbersTold(parts[2])
	if l[0] < 0 || l[0] >= len(b) || l[1] < 0 || l[1] > 255 {
		return "error 5"
	}
	b[l[0]] = byte(l[1])
	return "turned"
}

// whole is what is done to a module.
func (m *model) whole(word, name string) string {
	made := m.modules[name]
	var why api.Errno
	var size int
	switch word {
	case "infer":
		if made, _, _, why = infer.Module(made); why == api.OK {
			m.modules[name] = made
		}
		for i := range made.Certs {
			size += len(made.Certs[i])
		}
		word = "certified"
	case "tune":
		if made, why = opt.Module(made); why == api.OK {
			m.modules[name] = made
		}
		for i := range made.Funcs {
			size += len(made.Funcs[i].Code)
		}
		word = "tuned"
	case "ship":
		var b []byte
		if b, why = module.Encode(made); why == api.OK {
			m.files[name] = b
		}
		size = len(b)
		word = "file"
	case "check":
		if _, _, why = onepass.Module(made); why == api.OK {
			return "good"
		}
	}
	if why != api.OK {
		return failed(why)
	}
	return fmt.Sprint(word, " ", size)
}

// function is what is done to a function of a module.
func (m *model) function(word, name string, fn int, args string) string {
	made := m.modules[name]
	switch word {
	case "run":
		return outcomeTold(machine.Guarded(made, fn, numbersTold(args), 100000, 1000))
	case "bare":
		if _, _, why := onepass.Module(made); why != api.OK {
			return "error 1"
		}
		return outcomeTold(machine.Bare(made, fn, numbersTold(args), 100000, 1000))
	}
	text, _, why := asm.Print(made.Funcs[fn].Code)
	if why != api.OK {
		return failed(why)
	}
	return fmt.Sprint("code ", len(strings.SplitAfter(text, "\n"))-1)
}

// mean is P25.2.
func (m *model) mean(name, function, args string) (string, api.Errno) {
	p, err := parse.Parse(m.sources[name])
	if err == nil {
		p, err = check.Check(p)
	}
	if err != nil {
		return failed(err.(api.Fault).Why), api.OK
	}
	for fn, f := range p.Funs {
		if f.Name == function {
			return outcomeTold(meaning.Run(p, fn, numbersTold(args), 100000, 1000)), api.OK
		}
	}
	return "", api.ErrThing
}

// numbersTold are numbers with a blank ahead of each.
func numbersTold(text string) []int {
	var l []int
	for _, word := range strings.Fields(text) {
		var n int
		fmt.Sscan(word, &n)
		l = append(l, n)
	}
	return l
}

func outcomeTold(o api.Outcome) string {
	var text string
	switch o.Err {
	case api.OK:
		text = fmt.Sprint("ok ", o.Result)
	case api.ErrTrap:
		text = fmt.Sprint("trap ", o.Trap)
	case api.ErrFuel:
		text = "fuel"
	case api.ErrStuck:
		text = "stuck"
	default:
		text = failed(o.Err)
	}
	for i, n := range o.Told {
		if i == 0 {
			text += " told"
		}
		text += fmt.Sprint(" ", n)
	}
	return text
}
