package wire

const (
	sumStart = 0xffffffff // what a sum begins with, and what turns it over at its end
	sumTurn  = 0xedb88320

	halfBits = 4
	halves   = 1 << halfBits
)

// sumWords is what each half byte comes to behind four rounds: a byte takes two look-ups instead of eight rounds. They are made by the rule itself, since a written table would have to be believed; so few that making them costs a short text no more than its rounds would.
type sumWords [halves]uint32

// Sum is the check sum of bytes.
func Sum(b []byte) int {
	words := makeSumWords()
	c := uint32(sumStart)
	for _, x := range b {
		c ^= uint32(x)
		c = c>>halfBits ^ words[c%halves]
		c = c>>halfBits ^ words[c%halves]
	}
	return int(c ^ sumStart)
}

func makeSumWords() sumWords {
	var words sumWords
	for i := range words {
		c := uint32(i)
		for range halfBits {
			c = sumRound(c)
		}
		words[i] = c
	}
	return words
}

func sumRound(c uint32) uint32 {
	if c%2 == 1 {
		return c>>1 ^ sumTurn
	}
	return c >> 1
}
