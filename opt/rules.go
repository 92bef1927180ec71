package opt

import (
	"slices"

	"proviso/api"
	"proviso/code"
)

// rule is one of the chapter's: what comes of a list, which stays as it was.
type rule struct {
	does func(l list) list
}

// rules are in the order of a round.
func rules() []rule {
	return []rule{{threads}, {dead}, {nothing}, {constants}, {sure}}
}

// rounds does rounds until one changes nothing. That ends: threads has nothing to do where it was done last, and every other rule leaves fewer instructions, or fewer unless.
func rounds(l list) list {
	for {
		before := l
		for _, r := range rules() {
			l = r.does(l)
		}
		if slices.Equal(l, before) {
			return l
		}
	}
}

// threads lets each jump lead to where it comes to along jumps.
func threads(l list) list {
	all, goals := slices.Clone(l), goalsOf(l)
	for i, in := range l {
		if code.Jumps(in.Op) && goals[in.A] != endless {
			all[i].A = goals[in.A]
		}
	}
	return all
}

const (
	unknown = -1
	endless = -2
)

// goalsOf tells by place where one comes to from there along jumps; endless, if that way comes to a jump twice. Each place is gone through once, however many ways lead over it.
func goalsOf(l list) []int {
	goals := slices.Repeat([]int{unknown}, len(l))
	for from := range l {
		at := from
		var way []int
		for goals[at] == unknown && l[at].Op == api.OpJump {
			goals[at] = endless // till more is known: if the way comes here again, it is
			way = append(way, at)
			at = l[at].A
		}
		if goals[at] == unknown {
			goals[at] = at
		}
		for _, i := range way {
			goals[i] = goals[at]
		}
	}
	return goals
}

// dead leaves out what is not come to: what flow.Reach would not tell, but by places, since addresses need not be laid for that in every round.
func dead(l list) list {
	out := slices.Repeat([]bool{true}, len(l))
	for ahead := []int{0}; len(ahead) > 0; {
		i := ahead[len(ahead)-1]
		ahead = ahead[:len(ahead)-1]
		if !out[i] {
			continue
		}
		out[i] = false
		if !code.Ends(l[i].Op) {
			ahead = append(ahead, i+1)
		}
		if code.Jumps(l[i].Op) {
			ahead = append(ahead, l[i].A)
		}
	}
	return l.without(out)
}

// nothing leaves out what does nothing.
func nothing(l list) list {
	all := slices.Clone(l)
	out := make([]bool, len(l))
	for i, in := range l {
		switch next := in.A == i+1; {
		case in.Op == api.OpNop, in.Op == api.OpJump && next:
			out[i] = true
		case in.Op == api.OpUnless && next:
			all[i] = api.Instr{Op: api.OpPop}
		}
	}
	return all.without(out)
}

// constants reckons ahead what hangs on constants alone.
func constants(l list) list { return replaced(l, foldings()) }

// sure knows ahead whether an unless jumps.
func sure(l list) list { return replaced(l, surenesses()) }
