package freelist

// Age sets the generation of every slot, since calls alone would take too long to reach the last ones.
func (l *List) Age(gen uint64) {
	for slot := range l.gens {
		l.gens[slot] = gen
	}
}
