// Package wire is layer 1: bytes read and put one behind another, names, a check sum; see ../../shared/doc/01-wire.md.
package wire

import (
	"math"

	"proviso/api"
)

const (
	byteSize = 1
	wordSize = 2
	longSize = 4

	maxByte = math.MaxUint8
	maxWord = math.MaxUint16
	minLong = math.MinInt32
	maxLong = math.MaxInt32
)

// copied keeps what is handed in, and what is handed out, apart from what an object has.
func copied(b []byte) []byte {
	c := make([]byte, len(b))
	copy(c, b)
	return c
}

// IsName tells whether a text is a name.
func IsName(s string) bool {
	if len(s) == 0 || len(s) > api.MaxName || !isLetter(s[0]) {
		return false
	}
	for i := 1; i < len(s); i++ {
		if !isLetter(s[i]) && !isDigit(s[i]) && s[i] != '_' {
			return false
		}
	}
	return true
}

func isLetter(c byte) bool { return c >= 'a' && c <= 'z' || c >= 'A' && c <= 'Z' }

func isDigit(c byte) bool { return c >= '0' && c <= '9' }
