package talk

import (
	"proviso/api"
	"proviso/wire"
)

// What frames begin with, and how many bytes stand ahead of their Data.
const (
	requestMark = 0x50
	requestHead = 5
	answerMark  = 0x70
	answerHead  = 4

	sumSize = 4
)

// Pack is a request's frame.
func Pack(r api.Request) ([]byte, api.Errno) {
	w := wire.New()
	w.Byte(requestMark)
	if why := w.Byte(r.Command); why != api.OK {
		return nil, why
	}
	if why := w.Word(r.Number); why != api.OK {
		return nil, why
	}
	return closed(w, r.Data)
}

// Unpack is the request of a frame.
func Unpack(b []byte) (api.Request, api.Errno) {
	data, why := opened(b, requestMark, requestHead)
	if why != api.OK {
		return api.Request{}, why
	}
	return api.Request{Command: int(b[1]), Number: wordAt(b, 2), Data: data}, api.OK
}

// Told is an answer's frame.
func Told(a api.Answer) ([]byte, api.Errno) {
	w := wire.New()
	w.Byte(answerMark)
	if why := w.Word(a.Status); why != api.OK {
		return nil, why
	}
	return closed(w, a.Data)
}

// Heard is the answer of a frame.
func Heard(b []byte) (api.Answer, api.Errno) {
	data, why := opened(b, answerMark, answerHead)
	if why != api.OK {
		return api.Answer{}, why
	}
	return api.Answer{Status: wordAt(b, 1), Data: data}, api.OK
}

// closed puts Data and the sum behind what a frame begins with.
func closed(w *wire.Writer, data []byte) ([]byte, api.Errno) {
	if len(data) > api.MaxData {
		return nil, api.ErrLong
	}
	w.Byte(len(data))
	w.Put(data)
	w.Long(sumOf(w.Bytes()))
	return w.Bytes(), api.OK
}

// opened is the Data of a frame with that mark and so many bytes ahead of them, the last of which says how many they are.
func opened(b []byte, mark byte, head int) (data []byte, why api.Errno) {
	var end int // of Data, where the sum begins
	if len(b) == 0 {
		why = api.ErrShort
		goto refused
	}
	if b[0] != mark {
		why = api.ErrFrame
		goto refused
	}
	if len(b) < head {
		why = api.ErrShort
		goto refused
	}
	end = head + int(b[head-1])
	if len(b) < end+sumSize {
		why = api.ErrShort
		goto refused
	}
	if len(b) > end+sumSize {
		why = api.ErrMore
		goto refused
	}
	if sum, _ := wire.Over(b[end:]).Long(); sum != sumOf(b[:end]) {
		why = api.ErrSum
		goto refused
	}
	return append(data, b[head:end]...), api.OK
refused:
	return nil, why
}

// sumOf is the check sum as wire's longs are told.
func sumOf(b []byte) int { return int(int32(wire.Sum(b))) }

// wordAt is the number of two bytes of a frame that is whole.
func wordAt(b []byte, at int) int { return int(b[at])<<8 | int(b[at+1]) }

// Upload is the requests that bring a file over, in chunks of so many bytes, and have it installed.
func Upload(file []byte, chunk int) ([]api.Request, api.Errno) {
	if chunk < 1 || chunk > api.MaxData {
		return nil, api.ErrArg
	}
	if len(file) == 0 || len(file) > api.MaxStore {
		return nil, api.ErrLong
	}
	l := []api.Request{{Command: api.CmdBegin, Number: len(file)}}
	for at := 0; at < len(file); at += chunk {
		end := min(at+chunk, len(file))
		l = append(l, api.Request{Command: api.CmdChunk, Number: at, Data: append([]byte(nil), file[at:end]...)})
	}
	return append(l, api.Request{Command: api.CmdInstall}), api.OK
}
