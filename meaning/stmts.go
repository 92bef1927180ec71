package meaning

import "proviso/api"

// way is how it goes on behind a statement.
type way int

const (
	behind way = iota // with the next one
	out               // behind the innermost loop
	again             // with that loop's next look
	back              // where the function was called
)

func (r *run) block(l []api.Stmt) way {
	for i := range l {
		if w := r.stmt(&l[i]); w != behind {
			return w
		}
	}
	return behind
}

func (r *run) stmt(s *api.Stmt) way {
	if s.Op == api.StWhile { // each of its looks is a rule, and it is none itself
		return r.loop(&s.Exprs[0], s.Body)
	}
	r.use()
	switch s.Op {
	case api.StVar:
		v := r.expr(&s.Exprs[0])
		r.vars[s.Ref] = v
	case api.StSet:
		r.set(&s.Exprs[0], &s.Exprs[1])
	case api.StIf:
		if r.expr(&s.Exprs[0]) != 0 {
			return r.block(s.Body)
		}
		return r.block(s.Else)
	case api.StBreak:
		return out
	case api.StContinue:
		return again
	case api.StReturn:
		r.give(s.Exprs)
		return back
	case api.StTell:
		r.tell(r.expr(&s.Exprs[0]))
	case api.StFail:
		r.trap(api.TrapOwn + s.Num)
	case api.StCall:
		r.expr(&s.Exprs[0])
	}
	return behind
}

func (r *run) loop(condition *api.Expr, body []api.Stmt) way {
	for {
		r.use()
		if r.expr(condition) == 0 {
			return behind
		}
		switch r.block(body) {
		case out:
			return behind
		case back:
			return back
		}
	}
}

func (r *run) set(left, right *api.Expr) {
	if left.Op == api.ExName {
		v := r.expr(right)
		r.vars[left.Ref] = v
		return
	}
	ref, i := r.expr(&left.Kids[0]), left.Ref
	if left.Op == api.ExAt {
		i = r.expr(&left.Kids[1])
	}
	v := r.expr(right)
	r.must(r.objects.Put(ref, i, v))
}

// give keeps what a return tells; the calls within its expression have told theirs ahead.
func (r *run) give(l []api.Expr) {
	v := 0
	if len(l) > 0 {
		v = r.expr(&l[0])
	}
	r.given = v
}

func (r *run) tell(n int) {
	if len(r.out.Told) == api.MaxTold {
		r.trap(api.TrapTold)
	}
	r.out.Told = append(r.out.Told, n)
}
