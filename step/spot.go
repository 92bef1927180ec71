package step

import (
	"proviso/api"
	"proviso/code"
	"proviso/frames"
	"proviso/types"
)

// spot is an instruction where it stands: in an environment, behind a frame.
type spot struct {
	e  api.Env
	f  api.Frame
	in api.Instr
}

// missing is the error of an instruction that is none, or of an operand that names nothing; a local is looked for in the frame.
func (s spot) missing() api.Errno {
	if s.in.Op == api.OpLoad || s.in.Op == api.OpStore {
		_, why := frames.Load(s.f, s.in.A)
		return why
	}
	return s.unknown()
}

// unknown is missing, but for locals.
func (s spot) unknown() api.Errno {
	if code.Size(s.in.Op) == 0 {
		return api.ErrOp
	}
	switch s.in.Op {
	case api.OpCall:
		if !within(s.in.A, len(s.e.Sigs)) {
			return api.ErrFunc
		}
	case api.OpNew, api.OpCast, api.OpTest:
		if !within(s.in.A, len(s.e.Classes)) {
			return api.ErrMember
		}
	case api.OpGet, api.OpPut:
		if !within(s.in.B, len(s.fields())) {
			return api.ErrMember
		}
	}
	return api.OK
}

func (s spot) rule() rule { return rules()[s.in.Op] }

// local is what is known of the local A.
func (s spot) local() api.Type {
	t, _ := frames.Load(s.f, s.in.A)
	return t
}

// called is the signature of the function A.
func (s spot) called() api.Sig { return s.e.Sigs[s.in.A] }

// class is the type of the class A.
func (s spot) class() api.Type { return api.TClass + api.Type(s.in.A) }

// fields are those of the class A; there are none, if there is no such class.
func (s spot) fields() []api.Field { return types.Fields(s.e.Classes, s.in.A) }

// field is the type of the class A's field B.
func (s spot) field() api.Type { return s.fields()[s.in.B].Type }
