package machine

// bare is a run that does not look: whoever has it run has had the code checked.
type bare struct{ run }

func (b *bare) step() {
	in, _ := b.fetch()
	b.do(in)
}
