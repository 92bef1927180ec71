package types

import "proviso/api"

// words are those of the types that are in every table, by their codes.
var words = [...]string{"top", "int", "bool", "null", "ints", "any"}

// isWord tells whether a text is such a word, which no class may have for its name.
func isWord(s string) bool {
	_, ok := Parse(nil, s)
	return ok
}

// Print is a type's word.
func Print(l []api.Class, t api.Type) string {
	if t <= api.TAny {
		return words[t]
	}
	if c := classOf(t); isClass(l, c) {
		return l[c].Name
	}
	return ""
}

// Parse is the type of a word.
func Parse(l []api.Class, s string) (api.Type, bool) {
	for t, w := range words {
		if w == s {
			return api.Type(t), true
		}
	}
	for c := range l {
		if l[c].Name == s {
			return typeOf(c), true
		}
	}
	return api.TTop, false
}
