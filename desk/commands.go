package desk

import (
	"strings"

	"proviso/api"
	"proviso/asm"
	"proviso/check"
	"proviso/gen"
	"proviso/infer"
	"proviso/machine"
	"proviso/meaning"
	"proviso/module"
	"proviso/onepass"
	"proviso/opt"
	"proviso/parse"
)

// What a run is given.
const (
	fuel = 100000
	room = 1000
)

// desk is what a script has laid down so far, by names.
type desk struct {
	sources map[string]source
	modules map[string]api.Module
	files   map[string][]byte
}

type source struct{ text string }

func newDesk() *desk {
	return &desk{sources: map[string]source{}, modules: map[string]api.Module{}, files: map[string][]byte{}}
}

// commands are all of them, by their words.
func commands() map[string]command {
	return map[string]command{
		"source":  {does: (*desk).source, text: true},
		"compile": {does: (*desk).compile},
		"infer":   {does: (*desk).infer},
		"tune":    {does: (*desk).tune},
		"ship":    {does: (*desk).ship},
		"turn":    {does: (*desk).turn, least: 2, most: 2},
		"load":    {does: (*desk).load},
		"check":   {does: (*desk).check},
		"run":     {does: (*desk).run, functions: 1, most: api.MaxParams},
		"bare":    {does: (*desk).bare, functions: 1, most: api.MaxParams},
		"mean":    {does: (*desk).mean, functions: 1, most: api.MaxParams},
		"list":    {does: (*desk).list, functions: 1},
	}
}

func (d *desk) source(o order) (string, error) {
	d.sources[o.name] = source{o.text}
	return "", nil
}

func (d *desk) compile(o order) (string, error) {
	s, is := d.sources[o.name]
	if !is {
		return "", api.ErrThing
	}
	m, err := gen.Compile(o.name, s.text)
	if err != nil {
		return "", err
	}
	return d.keep(o, m, "module", len(m.Funcs))
}

// keep makes a module the one of an order's name; the answer is what was counted of it.
func (d *desk) keep(o order, m api.Module, word string, count int) (string, error) {
	d.modules[o.name] = m
	return answerOf(word, count), nil
}

func (d *desk) infer(o order) (string, error) {
	m, is := d.modules[o.name]
	if !is {
		return "", api.ErrThing
	}
	m, _, _, why := infer.Module(m)
	if why != api.OK {
		return "", why
	}
	size := 0
	for _, proof := range m.Certs {
		size += len(proof)
	}
	return d.keep(o, m, "certified", size)
}

func (d *desk) tune(o order) (string, error) {
	m, is := d.modules[o.name]
	if !is {
		return "", api.ErrThing
	}
	m, why := opt.Module(m)
	if why != api.OK {
		return "", why
	}
	size := 0
	for _, f := range m.Funcs {
		size += len(f.Code)
	}
	return d.keep(o, m, "tuned", size)
}

func (d *desk) ship(o order) (string, error) {
	m, is := d.modules[o.name]
	if !is {
		return "", api.ErrThing
	}
	b, why := module.Encode(m)
	if why != api.OK {
		return "", why
	}
	d.files[o.name] = b
	return answerOf("file", len(b)), nil
}

func (d *desk) turn(o order) (string, error) {
	b, is := d.files[o.name]
	if !is {
		return "", api.ErrThing
	}
	at, with := o.numbers[0], o.numbers[1]
	if at < 0 || at >= len(b) || with < 0 || with > 255 {
		return "", api.ErrRange
	}
	b[at] = byte(with)
	return "turned", nil
}

func (d *desk) load(o order) (string, error) {
	b, is := d.files[o.name]
	if !is {
		return "", api.ErrThing
	}
	m, _, why := module.Decode(b)
	if why != api.OK {
		return "", why
	}
	return d.keep(o, m, "loaded", len(m.Funcs))
}

func (d *desk) check(o order) (string, error) {
	m, is := d.modules[o.name]
	if !is {
		return "", api.ErrThing
	}
	if _, _, why := onepass.Module(m); why != api.OK {
		return "", why
	}
	return "good", nil
}

// function is the module that an order names, and the number of the function in it; a module that is not there has none.
func (d *desk) function(o order) (api.Module, int, error) {
	m := d.modules[o.name]
	fn, is := module.Entry(m, o.function)
	if !is {
		return api.Module{}, 0, api.ErrThing
	}
	return m, fn, nil
}

func (d *desk) run(o order) (string, error) {
	m, fn, err := d.function(o)
	if err != nil {
		return "", err
	}
	return ran(machine.Guarded(m, fn, o.numbers, fuel, room))
}

func (d *desk) bare(o order) (string, error) {
	m, fn, err := d.function(o)
	if err != nil {
		return "", err
	}
	if _, _, why := onepass.Module(m); why != api.OK {
		return "", api.ErrArg
	}
	return ran(machine.Bare(m, fn, o.numbers, fuel, room))
}

func (d *desk) mean(o order) (string, error) {
	s, is := d.sources[o.name]
	if !is {
		return "", api.ErrThing
	}
	p, err := parse.Parse(s.text)
	if err != nil {
		return "", err
	}
	p, err = check.Check(p)
	if err != nil {
		return "", err
	}
	fn, is := check.Entry(p, o.function)
	if !is {
		return "", api.ErrThing
	}
	return ran(meaning.Run(p, fn, o.numbers, fuel, room))
}

func (d *desk) list(o order) (string, error) {
	m, fn, err := d.function(o)
	if err != nil {
		return "", err
	}
	text, _, why := asm.Print(m.Funcs[fn].Code)
	if why != api.OK {
		return "", why
	}
	return answerOf("code", strings.Count(text, "\n")), nil
}
