package machine_test

import (
	"strings"
	"testing"

	"proviso/api"
)

// isStuck holds a run of a module's first function against being stuck behind so many steps.
func isStuck(t *testing.T, about string, m api.Module, steps int) {
	t.Helper()
	x := try{m, 0, nil, 1000, 90}
	o := x.guarded()
	want := api.Outcome{Err: api.ErrStuck, Steps: steps, Cells: o.Cells, Told: o.Told}
	x.comesTo(t, about, want)
	x.fuel = steps
	x.comesTo(t, about+": just enough fuel", want)
	x.fuel--
	if o := x.guarded(); o.Err != api.ErrFuel || o.Steps != x.fuel {
		t.Error(about, "one less", o)
	}
}

func TestP17_1StuckWithoutAnInstruction(t *testing.T) {
	raw := func(b ...byte) api.Module { return over(api.Func{Code: b}) }
	isStuck(t, "no code", raw(), 1)
	isStuck(t, "behind the end", raw(0), 2)
	isStuck(t, "behind the end", raw(0, 0, 0), 4)
	isStuck(t, "no instruction", raw(34), 1)
	isStuck(t, "no instruction", raw(0, 255), 2)
	isStuck(t, "operands that are not there", raw(1, 0, 0, 0), 1)
	isStuck(t, "operands that are not there", raw(0, 19, 0), 2)
	isStuck(t, "operands that are not there", raw(24, 0), 1)
	isStuck(t, "a bool that is none", raw(2, 2), 1)
	isStuck(t, "a jump to the end", raw(19, 0, 3), 2)
	isStuck(t, "a jump behind the end", raw(19, 0, 4), 2)
	isStuck(t, "a jump far behind the end", raw(19, 255, 255), 2)
	isStuck(t, "an unless behind the end", raw(2, 0, 20, 1, 0), 3)
	isStuck(t, "an unless that does not jump", raw(2, 1, 20, 0, 0), 3)
	isStuck(t, "a jump into the midst", raw(19, 0, 4, 1, 200, 0, 0, 0), 2)
	try{raw(19, 0, 4, 1, api.OpReturn, 0, 0, 0), 0, nil, 9, 0}.comesTo(t, "a jump into the midst", api.Outcome{Steps: 2})
	short := over(fun(t, 0, "call 1; return", none), api.Func{Code: []byte{0}})
	isStuck(t, "of the innermost call", short, 3)
}

func TestP17_1StuckOnWhatIsNotThere(t *testing.T) {
	for text, steps := range map[string]int{
		"load 2": 1, "load 255": 1, "int 1; store 2": 2, "int 1; store 255": 2, "int 1; store 1; load 2": 3,
		"call 1": 1, "call 255": 1,
		"new 4": 1, "new 255": 1, "null; cast 4": 2, "null; test 4": 2, "null; cast 255": 2,
		"null; get 4 0": 2, "null; get 0 1": 2, "null; get 1 2": 2, "null; get 3 1": 2, "null; get 2 255": 2,
		"null; int 1; put 4 0": 3, "null; int 1; put 0 1": 3, "new 1; int 1; put 0 1": 3,
	} {
		isStuck(t, text, over(fun(t, 2, text, none)), steps)
	}
	plain := api.Module{Funcs: []api.Func{fun(t, 0, "new 0", none)}}
	isStuck(t, "no classes", plain, 1)
	isStuck(t, "no variables", over(fun(t, 0, "load 0", none)), 1)
	isStuck(t, "nothing is in it", over(fun(t, 2, "int 1; store 0; load 1", none)), 3)
	isStuck(t, "nothing is in it", over(fun(t, 16, "load 15", none)), 1)
	within := over(fun(t, 1, "int 1; store 0; call 1", none), fun(t, 1, "load 0", none))
	isStuck(t, "nothing is in that of a call", within, 4)
	again := over(fun(t, 0, "call 1; call 2", none), fun(t, 1, "int 1; store 0; return", none), fun(t, 1, "load 0; return", api.TInt))
	isStuck(t, "nothing is left of a call that has ended", again, 6)
	fewer := over(fun(t, 16, "int 1; store 15; call 1", none), fun(t, 2, "load 15", none))
	isStuck(t, "the variables of the call around", fewer, 4)
}

// values are such as code can make, by words of chapter 7 for what they are.
var values = []struct {
	text string
	is   string
}{
	{"int 1", "top int"},
	{"bool 1", "top bool"},
	{"null", "top any ints shape disc box list"},
	{"int 3; make", "top any ints"},
	{"new 0", "top any shape"},
	{"new 1", "top any shape disc"},
	{"new 2", "top any shape box"},
	{"new 3", "top any list"},
}

// wanted are instructions with operands, with what they take.
var wanted = map[string]string{
	"store 0": "top", "pop": "top", "dup": "top", "swap": "top top",
	"add": "int int", "sub": "int int", "mul": "int int", "div": "int int", "rem": "int int", "neg": "int", "less": "int int",
	"not": "bool", "is": "any any", "unless 0": "bool",
	"get 0 0": "shape", "get 1 0": "disc", "get 1 1": "disc", "get 2 2": "box", "get 3 0": "list",
	"put 0 0": "shape int", "put 2 1": "box int", "put 2 2": "box any", "put 3 0": "list list",
	"make": "int", "len": "ints", "at": "ints int", "set": "ints int int",
	"cast 0": "any", "cast 3": "any", "test 1": "any", "tell": "int",
	"call 1": "int bool", "call 2": "ints any", "call 3": "shape disc list",
}

// callees are functions that take what the calls above do.
func callees(t *testing.T) []api.Func {
	return []api.Func{
		fun(t, 2, "return", none, api.TInt, api.TBool),
		fun(t, 2, "return", none, api.TInts, api.TAny),
		fun(t, 3, "return", none, shape, disc, list),
	}
}

// each goes through all rows of n values.
func each(n int, row []int, do func(row []int)) {
	if n == 0 {
		do(row)
		return
	}
	for i := range values {
		each(n-1, append(row[:len(row):len(row)], i), do)
	}
}

func TestP17_1StuckOnWhatItTakes(t *testing.T) {
	stuck, went := 0, 0
	for text, wants := range wanted {
		l := strings.Fields(wants)
		each(len(l), nil, func(row []int) {
			lines, good, steps := "", true, 0
			for i, v := range row {
				lines += values[v].text + "; "
				steps += 1 + strings.Count(values[v].text, ";")
				good = good && strings.Contains(values[v].is+" ", l[i]+" ")
			}
			m := over(append([]api.Func{fun(t, 1, lines+text, none)}, callees(t)...)...)
			o := try{m, 0, nil, steps + 1, 90}.guarded()
			if (o.Err != api.ErrStuck) != good || o.Steps != steps+1 {
				t.Errorf("%s%s: %+v", lines, text, o)
			}
			if good {
				went++
			} else {
				isStuck(t, lines+text, m, steps+1)
				stuck++
			}
		})
		for n := range l { // one value, and more, too few
			lines, steps := "", 0
			for _, word := range l[len(l)-n:] {
				for _, v := range values {
					if strings.Contains(v.is+" ", word+" ") {
						lines += v.text + "; "
						steps += 1 + strings.Count(v.text, ";")
						break
					}
				}
			}
			isStuck(t, lines+text, over(append([]api.Func{fun(t, 1, lines+text, none)}, callees(t)...)...), steps+1)
		}
	}
	if stuck < 1000 || went < 150 {
		t.Error("few", stuck, went)
	}
}

func TestP17_1StuckOnSame(t *testing.T) {
	each(2, nil, func(row []int) {
		a, b := values[row[0]], values[row[1]]
		lines := a.text + "; " + b.text + "; same"
		steps := 1 + strings.Count(lines, ";")
		m := over(fun(t, 0, lines, none))
		if good := a.is == b.is && row[0] < 2; !good {
			isStuck(t, lines, m, steps)
		} else if o := (try{m, 0, nil, steps, 90}).guarded(); o.Err != api.ErrFuel || o.Steps != steps {
			t.Error(lines, o)
		}
	})
	for _, text := range []string{"same", "int 1; same", "bool 1; same"} {
		isStuck(t, text, over(fun(t, 0, text, none)), 1+strings.Count(text, ";"))
	}
}

func TestP17_1StuckOnAReturn(t *testing.T) {
	words := map[string]api.Type{"int": api.TInt, "bool": api.TBool, "any": api.TAny, "ints": api.TInts, "shape": shape, "disc": disc, "box": box, "list": list}
	for word, result := range words {
		isStuck(t, "nothing for "+word, over(fun(t, 0, "return", result)), 1)
		for _, v := range values {
			steps := 2 + strings.Count(v.text, ";")
			m := over(fun(t, 0, v.text+"; return", result))
			within := over(fun(t, 0, "call 1; pop; return", none), m.Funcs[0])
			if strings.Contains(v.is+" ", word+" ") {
				if o := (try{m, 0, nil, 9, 90}).guarded(); o.Err != api.OK || o.Steps != steps {
					t.Error(word, v, o)
				}
				if o := (try{within, 0, nil, 9, 90}).guarded(); o.Err != api.OK || o.Steps != steps+3 {
					t.Error(word, v, o)
				}
			} else {
				isStuck(t, v.text+" for "+word, m, steps)
				isStuck(t, v.text+" for "+word+" of a call", within, steps+1)
			}
			left := over(fun(t, 0, "null; "+v.text+"; return", result))
			isStuck(t, "something is left", left, steps+1)
			nothing := over(fun(t, 0, v.text+"; return", none))
			isStuck(t, "something is left", nothing, steps)
		}
	}
}

func TestP17_1StuckWithoutRoomOnTheStack(t *testing.T) {
	for _, locals := range []int{0, 1, 7, 16} {
		for _, last := range []string{"int 1", "bool 1", "null", "new 0", "dup", "load 0"} {
			n := 24 - locals - 1 // a store, too: so load finds something
			if locals == 0 {
				n++
				if last == "load 0" {
					continue
				}
			}
			ahead, steps := times(n, "int 5"), n
			if locals > 0 {
				ahead += "int 5; store 0; int 5; "
				steps += 3
			}
			isStuck(t, last, over(fun(t, locals, ahead+last, none)), steps+1)
			short := strings.TrimSuffix(ahead, "int 5; ")
			m := over(fun(t, locals, short+last+"; trap 1", none))
			if o := (try{m, 0, nil, 99, 9}).guarded(); o.Err != api.ErrTrap || o.Steps != steps+1 {
				t.Error(locals, last, o)
			}
			poor := try{over(fun(t, locals, ahead+last, none)), 0, nil, 99, 0} // that there is no room for an object is not come to
			poor.comesTo(t, last, api.Outcome{Err: api.ErrStuck, Steps: steps + 1})
		}
	}
	for _, text := range []string{"store 0", "pop", "swap", "add", "neg", "tell", "make", "less", "trap 1", "nop"} {
		m := over(fun(t, 1, times(23, "int 1")+text, none))
		if o := (try{m, 0, nil, 24, 9}).guarded(); o.Err == api.ErrStuck {
			t.Error(text, o)
		}
	}
}

// What a call gives comes to lie on the stack around it when it returns.
func TestP17_1StuckWithoutRoomForAResult(t *testing.T) {
	gives, takes := fun(t, 0, "nop; int 1; return", api.TInt), fun(t, 1, "load 0; return", api.TInt, api.TInt)
	nothing := fun(t, 16, "return", none)
	isStuck(t, "a result", over(fun(t, 0, times(24, "int 1")+"call 1", none), gives), 28)
	isStuck(t, "a result", over(fun(t, 16, times(8, "int 1")+"call 1", none), gives), 12)
	try{over(fun(t, 0, times(23, "int 1")+"call 1; trap 1", none), gives), 0, nil, 99, 0}.comesTo(t, "just room", api.Outcome{Err: api.ErrTrap, Trap: 17, Steps: 28})
	try{over(fun(t, 0, times(24, "int 1")+"call 1; trap 1", none), takes), 0, nil, 99, 0}.comesTo(t, "in the argument's place", api.Outcome{Err: api.ErrTrap, Trap: 17, Steps: 28})
	try{over(fun(t, 0, times(24, "int 1")+"call 1; trap 1", none), nothing), 0, nil, 99, 0}.comesTo(t, "nothing", api.Outcome{Err: api.ErrTrap, Trap: 17, Steps: 27})
	deep := over(fun(t, 0, "call 1", none), fun(t, 0, times(24, "int 1")+"call 1", api.TInt))
	try{deep, 0, nil, 9999, 0}.comesTo(t, "too deep", api.Outcome{Err: api.ErrTrap, Trap: api.TrapDepth, Steps: 1 + 63*25})
}

// Being stuck is found out ahead of a trap.
func TestP17_1StuckRatherThanTrapped(t *testing.T) {
	for text, steps := range map[string]int{
		"bool 1; int 0; div": 3, "null; int 0; rem": 3, "null; bool 1; put 0 0": 3, "null; int 1; put 2 2": 3,
		"null; null; at": 3, "null; int 0; bool 1; set": 4, "int 2; make; int 9; null; set": 5,
	} {
		isStuck(t, text, over(fun(t, 0, text, none)), steps)
	}
	// It calls itself with a number less by one; of 0 with a bool, in the 64th call.
	deep := over(fun(t, 0, "int 62; call 1", none), fun(t, 1, "load 0; int 0; same; unless 16; bool 1; call 1; nop; load 0; int 1; sub; call 1", none, api.TInt))
	isStuck(t, "at the deepest call", deep, 2+62*8+6)
	deep.Funcs[0].Code[4]++
	try{deep, 0, nil, 999, 0}.comesTo(t, "deeper by one", api.Outcome{Err: api.ErrTrap, Trap: api.TrapDepth, Steps: 2 + 63*8})
}
