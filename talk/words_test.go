package talk_test

import (
	"hash/crc32"
	"slices"

	"proviso/api"
	"proviso/card"
)

// Chapter 24 over again, by its words.

// summed is bytes with their check sum behind.
func summed(b []byte) []byte { return slices.Concat(b, four(int(crc32.ChecksumIEEE(b)))) }

// requestTold is a request's frame, whatever its parts are.
func requestTold(r api.Request) []byte {
	return summed(slices.Concat([]byte{0x50, byte(r.Command)}, two(r.Number), []byte{byte(len(r.Data))}, r.Data))
}

// answerTold is an answer's frame, whatever its parts are.
func answerTold(a api.Answer) []byte {
	return summed(slices.Concat([]byte{0x70}, two(a.Status), []byte{byte(len(a.Data))}, a.Data))
}

// errorTold is P24.2: what is wrong with a frame with that first byte and so many ahead of Data.
func errorTold(b []byte, first byte, head int) api.Errno {
	if len(b) < 1 {
		return api.ErrShort
	}
	if b[0] != first {
		return api.ErrFrame
	}
	if len(b) < head {
		return api.ErrShort
	}
	whole := head + int(b[head-1]) + 4
	switch {
	case len(b) < whole:
		return api.ErrShort
	case len(b) > whole:
		return api.ErrMore
	case !slices.Equal(summed(b[:whole-4]), b):
		return api.ErrSum
	}
	return api.OK
}

func unpackTold(b []byte) (api.Request, api.Errno) {
	if why := errorTold(b, 0x50, 5); why != api.OK {
		return api.Request{}, why
	}
	return api.Request{Command: int(b[1]), Number: int(b[2])*256 + int(b[3]), Data: b[5 : len(b)-4]}, api.OK
}

func heardTold(b []byte) (api.Answer, api.Errno) {
	if why := errorTold(b, 0x70, 4); why != api.OK {
		return api.Answer{}, why
	}
	return api.Answer{Status: int(b[1])*256 + int(b[2]), Data: b[4 : len(b)-4]}, api.OK
}

// model is a session by the words of 24.2, over a card of its own.
type model struct {
	c        *card.Card
	bringing bool
	size     int
	file     []byte
	told     []int
}

func (m *model) waits() int {
	if !m.bringing {
		return 0
	}
	return len(m.file)
}

// handle is P24.5.
func (m *model) handle(b []byte) []byte {
	r, why := unpackTold(b)
	if why != api.OK {
		return answerTold(api.Answer{Status: 0x6700})
	}
	status, data := m.does(r)
	return answerTold(api.Answer{Status: status, Data: data})
}

// errorOr is the status of what answers an error, or nothing.
func errorOr(why api.Errno) int {
	if why != api.OK {
		return 0x6a00 + int(why)
	}
	return 0x9000
}

func (m *model) does(r api.Request) (int, []byte) {
	switch r.Command {
	case 1:
		return 0x9000, slices.Concat([]byte{byte(len(m.c.Names()))}, []byte(m.c.Selected()))
	case 2:
		for i, name := range m.c.Names() {
			if i == r.Number {
				return 0x9000, []byte(name)
			}
		}
		return 0x6b00, nil
	case 3:
		return errorOr(m.c.Select(string(r.Data))), nil
	case 4, 5, 6:
		return m.brings(r)
	case 7:
		_, why := m.c.Remove(string(r.Data))
		return errorOr(why), nil
	case 8:
		return m.runs(r)
	case 9:
		if r.Number > len(m.told) {
			return 0x6b00, nil
		}
		var data []byte
		for i := r.Number; i < len(m.told) && i < r.Number+63; i++ {
			data = append(data, four(m.told[i])...)
		}
		return 0x9000, data
	case 10:
		m.bringing, m.told = false, nil
		return 0x9000, nil
	}
	return 0x6d00, nil
}

// brings is CmdBegin, CmdChunk and CmdInstall.
func (m *model) brings(r api.Request) (int, []byte) {
	if r.Command == 4 {
		if r.Number < 1 || r.Number > 4096 {
			return 0x6b00, nil
		}
		m.bringing, m.size, m.file = true, r.Number, nil
		return 0x9000, nil
	}
	if !m.bringing || r.Command == 6 && len(m.file) != m.size {
		return 0x6985, nil
	}
	if r.Command == 5 {
		if r.Number != len(m.file) || len(m.file)+len(r.Data) > m.size {
			return 0x6b00, two(len(m.file))
		}
		m.file = slices.Concat(m.file, r.Data)
		return 0x9000, two(len(m.file))
	}
	m.bringing = false
	name, _, why := m.c.Install(m.file)
	return errorOr(why), []byte(name)
}

// isWord tells whether a text is a name, by the words of DOC.md.
func isWord(s []byte) bool {
	for i, c := range s {
		letter := c >= 'a' && c <= 'z' || c >= 'A' && c <= 'Z'
		if !letter && (i == 0 || c != '_' && (c < '0' || c > '9')) {
			return false
		}
	}
	return len(s) >= 1 && len(s) <= 24
}

// runs is CmdRun.
func (m *model) runs(r api.Request) (int, []byte) {
	if len(r.Data) == 0 || len(r.Data) < 1+int(r.Data[0]) {
		return 0x6700, nil
	}
	name, rest := r.Data[1:1+r.Data[0]], r.Data[1+int(r.Data[0]):]
	if !isWord(name) || len(rest)%4 != 0 {
		return 0x6700, nil
	}
	var args []int
	for ; len(rest) > 0; rest = rest[4:] {
		n := (int(rest[0])*256+int(rest[1]))*65536 + int(rest[2])*256 + int(rest[3])
		if n >= 1<<31 {
			n -= 1 << 32
		}
		args = append(args, n)
	}
	o, why := m.c.Run(string(name), args, r.Number, 4096)
	if why != api.OK {
		return errorOr(why), nil
	}
	status, result := 0x9000, 0
	switch o.Err {
	case api.OK:
		result = o.Result
	case api.ErrTrap:
		status = 0x6400 + o.Trap
	case api.ErrFuel:
		status = 0x6f00
	default:
		m.told = nil
		return errorOr(o.Err), nil
	}
	m.told = o.Told
	return status, slices.Concat(four(result), two(len(o.Told)))
}
