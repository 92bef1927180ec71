package lex

import "proviso/api"

// spelt is the texts of words and marks, by their kinds; names and numbers have none of their own.
var spelt = [api.NumTok]string{
	api.TokAny: "any", api.TokAs: "as", api.TokBool: "bool", api.TokBreak: "break", api.TokContinue: "continue",
	api.TokElse: "else", api.TokFail: "fail", api.TokFalse: "false", api.TokFun: "fun", api.TokIf: "if",
	api.TokInt: "int", api.TokInts: "ints", api.TokIs: "is", api.TokLen: "len", api.TokNew: "new",
	api.TokNull: "null", api.TokRecord: "record", api.TokReturn: "return", api.TokTell: "tell", api.TokTrue: "true",
	api.TokVar: "var", api.TokWhile: "while",
	api.TokLeft: "(", api.TokRight: ")", api.TokOpen: "{", api.TokShut: "}", api.TokFrom: "[", api.TokTo: "]",
	api.TokComma: ",", api.TokSemi: ";", api.TokColon: ":", api.TokDot: ".",
	api.TokSet: "=", api.TokSame: "==", api.TokUnlike: "!=", api.TokNot: "!",
	api.TokLess: "<", api.TokMost: "<=", api.TokMore: ">", api.TokLeast: ">=",
	api.TokPlus: "+", api.TokMinus: "-", api.TokTimes: "*", api.TokOver: "/", api.TokRest: "%",
	api.TokAnd: "&&", api.TokOr: "||",
}

// Word is the text of a kind of token (names and numbers have none).
func Word(kind int) string {
	if kind < 0 || kind >= api.NumTok {
		return ""
	}
	return spelt[kind]
}

// Kind is the kind of a word or mark.
func Kind(s string) (int, bool) {
	for kind := api.TokAny; kind < api.NumTok; kind++ {
		if spelt[kind] == s {
			return kind, true
		}
	}
	return 0, false
}

// isBlank tells of the blanks of one byte.
func isBlank(c rune) bool { return c == ' ' || c == '\t' || c == '\n' || c == '\r' }

// isLetter tells with what a word may begin.
func isLetter(c rune) bool { return c >= 'a' && c <= 'z' || c >= 'A' && c <= 'Z' || c == '_' }

func isDigit(c rune) bool { return c >= '0' && c <= '9' }

func goesOnWord(c rune) bool { return isLetter(c) || isDigit(c) }

func goesOnRemark(c rune) bool { return c != '\n' }

// runEnd is where the longest run of such characters, from a place on, ends.
func runEnd(src string, at int, belongs func(c rune) bool) int {
	for i, c := range src[at:] {
		if !belongs(c) {
			return at + i
		}
	}
	return len(src)
}
