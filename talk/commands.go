package talk

import (
	"proviso/api"
	"proviso/wire"
)

// maxTold is how many numbers of a run an answer tells at most.
const maxTold = 63

// answer does what a request asks.
func (s *Session) answer(r api.Request) api.Answer {
	switch r.Command {
	case api.CmdHello:
		return s.hello()
	case api.CmdList:
		return s.list(r.Number)
	case api.CmdSelect:
		return ended(s.card.Select(string(r.Data)))
	case api.CmdBegin:
		return s.begin(r.Number)
	case api.CmdChunk:
		return s.chunk(r.Number, r.Data)
	case api.CmdInstall:
		return s.install()
	case api.CmdRemove:
		_, why := s.card.Remove(string(r.Data))
		return ended(why)
	case api.CmdRun:
		return s.run(r.Number, r.Data)
	case api.CmdTold:
		return s.tell(r.Number)
	case api.CmdStop:
		s.stop()
		return done(nil)
	}
	return refused(api.StatusCommand)
}

func done(data []byte) api.Answer { return api.Answer{Status: api.StatusOK, Data: data} }

func refused(status int) api.Answer { return api.Answer{Status: status} }

func failed(why api.Errno) api.Answer { return refused(api.StatusError + int(why)) }

// ended is the answer to what tells nothing but whether it was done.
func ended(why api.Errno) api.Answer {
	if why != api.OK {
		return failed(why)
	}
	return done(nil)
}

func (s *Session) hello() api.Answer {
	count := byte(len(s.card.Names()))
	return done(append([]byte{count}, s.card.Selected()...))
}

func (s *Session) list(number int) api.Answer {
	names := s.card.Names()
	if number >= len(names) {
		return refused(api.StatusPlace)
	}
	return done([]byte(names[number]))
}

func (s *Session) begin(size int) api.Answer {
	if size < 1 || size > api.MaxStore {
		return refused(api.StatusPlace)
	}
	s.size, s.file = size, nil
	return done(nil)
}

func (s *Session) isBringing() bool { return s.size > 0 }

func (s *Session) chunk(place int, data []byte) api.Answer {
	if !s.isBringing() {
		return refused(api.StatusOrder)
	}
	status := api.StatusPlace
	if place == len(s.file) && len(data) <= s.size-len(s.file) {
		s.file = append(s.file, data...)
		status = api.StatusOK
	}
	return api.Answer{Status: status, Data: word(len(s.file))} // either way, where it goes on
}

func (s *Session) install() api.Answer {
	if !s.isBringing() || len(s.file) < s.size {
		return refused(api.StatusOrder)
	}
	file := s.file
	s.forget()
	name, _, why := s.card.Install(file)
	if why != api.OK {
		return failed(why)
	}
	return done([]byte(name))
}

// forget lets no file be brought over.
func (s *Session) forget() { s.size, s.file = 0, nil }

func (s *Session) stop() {
	s.forget()
	s.told = nil
}

func (s *Session) run(fuel int, data []byte) api.Answer {
	entry, args, is := called(data)
	if !is {
		return refused(api.StatusFrame)
	}
	o, why := s.card.Run(entry, args, fuel, api.MaxRoom)
	if why != api.OK {
		return failed(why)
	}
	s.told = nil
	status, is := statusOf(o)
	if !is {
		return failed(o.Err)
	}
	s.told = o.Told
	return api.Answer{Status: status, Data: append(long(o.Result), word(len(o.Told))...)}
}

// called is the function, and the arguments, that a run's Data names: false, if they are none.
func called(data []byte) (entry string, args []int, is bool) {
	r := wire.Over(data)
	entry, why := r.Name()
	for why == api.OK && r.Left() > 0 {
		var n int
		n, why = r.Long()
		args = append(args, n)
	}
	return entry, args, why == api.OK
}

// statusOf is how a run came to its end: false, if it did not begin.
func statusOf(o api.Outcome) (int, bool) {
	switch o.Err {
	case api.OK:
		return api.StatusOK, true
	case api.ErrTrap:
		return api.StatusTrap + o.Trap, true
	case api.ErrFuel:
		return api.StatusFuel, true
	}
	return 0, false
}

func (s *Session) tell(from int) api.Answer {
	if from > len(s.told) {
		return refused(api.StatusPlace)
	}
	l := s.told[from:]
	var data []byte
	for _, n := range l[:min(len(l), maxTold)] {
		data = append(data, long(n)...)
	}
	return done(data)
}

// word is a number's two bytes.
func word(n int) []byte {
	w := wire.New()
	w.Word(n)
	return w.Bytes()
}

// long is a number's four bytes.
func long(n int) []byte {
	w := wire.New()
	w.Long(n)
	return w.Bytes()
}
