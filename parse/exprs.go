package parse

import (
	"proviso/api"
	"proviso/fault"
)

// exprs reads expressions. It gives up by panic with a fault.
type exprs struct {
	tokens []api.Token
	next   int // of tokens
	end    int // where the text ends
	deep   int // how many parts are begun and not ended
}

func (r *exprs) giveUp(why api.Errno) { fault.GiveUp(r.place(), why) }

// place is the next token's; the text's length, if there is none.
func (r *exprs) place() int {
	if r.next < len(r.tokens) {
		return r.tokens[r.next].At
	}
	return r.end
}

// kind is that of the token so far ahead of the reader; 0, if there is none.
func (r *exprs) kind(ahead int) int {
	if i := r.next + ahead; i < len(r.tokens) {
		return r.tokens[i].Kind
	}
	return 0
}

func (r *exprs) is(kind int) bool { return r.kind(0) == kind }

// take is the next token, which must be of a kind.
func (r *exprs) take(kind int) api.Token {
	if !r.is(kind) {
		r.giveUp(api.ErrToken)
	}
	t := r.tokens[r.next]
	r.next++
	return t
}

// pass takes the next token if it is of a kind.
func (r *exprs) pass(kind int) bool {
	is := r.is(kind)
	if is {
		r.take(kind)
	}
	return is
}

// open takes a token that begins a part one deeper; shut, or deep less one, ends that.
func (r *exprs) open(kind int) api.Token {
	if r.is(kind) && r.deep >= api.MaxDeep {
		r.giveUp(api.ErrDeep)
	}
	r.deep++
	return r.take(kind)
}

func (r *exprs) shut(kind int) {
	r.take(kind)
	r.deep--
}

func (r *exprs) name() string { return r.take(api.TokName).Text }

func (r *exprs) expr() api.Expr { return r.row(levelOr) }

// row is parts of higher levels with marks of a level between, grouped from the left.
func (r *exprs) row(level int) api.Expr {
	if level == levelUnary {
		return r.unary()
	}
	e := r.row(level + 1)
	for {
		b, is := byMark(r.kind(0))
		if !is || b.level != level {
			return e
		}
		at := r.take(b.mark).At
		e = api.Expr{Op: b.op, At: at, Kids: []api.Expr{e, r.row(level + 1)}}
		if level == levelHeld {
			return e // one mark alone: what is held is no sum
		}
	}
}

func (r *exprs) unary() api.Expr {
	switch r.kind(0) {
	case api.TokMinus:
		return r.signed(api.TokMinus, api.ExNeg)
	case api.TokNot:
		return r.signed(api.TokNot, api.ExNot)
	}
	return r.tail()
}

func (r *exprs) signed(mark, op int) api.Expr {
	e := api.Expr{Op: op, At: r.open(mark).At}
	if op == api.ExNeg && r.isLeast() {
		e.Op, e.Num = api.ExInt, -r.take(api.TokNum).Num
	} else {
		e.Kids = []api.Expr{r.unary()}
	}
	r.deep--
	return e
}

// isLeast tells whether what stands behind a minus sign is one number with it.
func (r *exprs) isLeast() bool {
	if !r.is(api.TokNum) || r.tokens[r.next].Num != greatest {
		return false
	}
	switch r.kind(1) {
	case api.TokDot, api.TokFrom, api.TokAs, api.TokIs:
		return false
	}
	return true
}

func (r *exprs) tail() api.Expr {
	e := r.prime()
	for {
		switch r.kind(0) {
		case api.TokDot:
			e = r.named(api.TokDot, api.ExField, e)
		case api.TokAs:
			e = r.named(api.TokAs, api.ExAs, e)
		case api.TokIs:
			e = r.named(api.TokIs, api.ExIs, e)
		case api.TokFrom:
			at := r.open(api.TokFrom).At
			e = api.Expr{Op: api.ExAt, At: at, Kids: []api.Expr{e, r.expr()}}
			r.shut(api.TokTo)
		default:
			return e
		}
	}
}

// named is a field, an as or an is of what stands ahead.
func (r *exprs) named(kind, op int, of api.Expr) api.Expr {
	at := r.take(kind).At
	return api.Expr{Op: op, At: at, Name: r.name(), Kids: []api.Expr{of}}
}

func (r *exprs) prime() api.Expr {
	switch kind := r.kind(0); kind {
	case api.TokNum:
		t := r.take(kind)
		return api.Expr{Op: api.ExInt, At: t.At, Num: t.Num}
	case api.TokTrue:
		return api.Expr{Op: api.ExBool, At: r.take(kind).At, Num: 1}
	case api.TokFalse:
		return api.Expr{Op: api.ExBool, At: r.take(kind).At}
	case api.TokNull:
		return api.Expr{Op: api.ExNull, At: r.take(kind).At}
	case api.TokNew:
		return r.made()
	case api.TokLen:
		at := r.take(kind).At
		return api.Expr{Op: api.ExLen, At: at, Kids: []api.Expr{r.within()}}
	case api.TokLeft:
		return r.within()
	}
	return r.called()
}

// within is an expression in parentheses.
func (r *exprs) within() api.Expr {
	r.open(api.TokLeft)
	e := r.expr()
	r.shut(api.TokRight)
	return e
}

func (r *exprs) made() api.Expr {
	at := r.take(api.TokNew).At
	if r.pass(api.TokInts) {
		return api.Expr{Op: api.ExMake, At: at, Kids: []api.Expr{r.within()}}
	}
	return api.Expr{Op: api.ExNew, At: at, Name: r.name()}
}

// called is a name, or a call of the function of that name.
func (r *exprs) called() api.Expr {
	t := r.take(api.TokName)
	e := api.Expr{Op: api.ExName, At: t.At, Name: t.Text}
	if !r.is(api.TokLeft) {
		return e
	}
	e.Op = api.ExCall
	r.open(api.TokLeft)
	if !r.is(api.TokRight) {
		e.Kids = append(e.Kids, r.expr())
		for r.pass(api.TokComma) {
			e.Kids = append(e.Kids, r.expr())
		}
	}
	r.shut(api.TokRight)
	return e
}
