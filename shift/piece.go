package shift

import (
	"iter"

	"quarto/api"
)

// span is a range of a string.
type span struct{ from, to int }

// pieces visits the pieces of a valid delta, and yields the ranges that each one has in the string and in the result: of the same bytes if it keeps them; otherwise one of the two is empty.
func pieces(d []api.Piece) iter.Seq2[span, span] {
	return func(yield func(in, out span) bool) {
		var in, out span
		for _, p := range d {
			in = span{in.to, in.to + p.N}            // N is 0 for Insert
			out = span{out.to, out.to + len(p.Text)} // Text is empty but for Insert
			if p.Kind == api.Retain {
				out.to += p.N
			}
			if !yield(in, out) {
				return
			}
		}
	}
}

// swapped yields the two ranges of each piece in the other order.
func swapped(ranges iter.Seq2[span, span]) iter.Seq2[span, span] {
	return func(yield func(here, there span) bool) {
		for here, there := range ranges {
			if !yield(there, here) {
				return
			}
		}
	}
}

// kept reports whether a piece with these ranges keeps bytes.
func kept(here, there span) bool {
	return here.from < here.to && there.from < there.to
}

// ask asks a question of piece after piece, until one answers it.
func ask(ranges iter.Seq2[span, span], question func(here, there span) (answered bool)) {
	for here, there := range ranges {
		if question(here, there) {
			return
		}
	}
}

// position is a position here, and where it moves there.
type position struct{ at, moved int }

// left moves the position directly behind those bytes of the piece that are kept and before it.
func (p *position) left(here, there span) bool {
	if here.from >= p.at {
		return true
	}
	if kept(here, there) {
		p.moved = there.from + min(p.at, here.to) - here.from
	}
	return false
}

// right moves the position directly before the first byte of the piece that is kept and not before it.
func (p *position) right(here, there span) bool {
	if here.to <= p.at || !kept(here, there) {
		return false
	}
	p.moved = there.from + max(p.at, here.from) - here.from
	return true
}

// single is a byte of the string, and its place in the result if it is kept.
type single struct {
	at, place int
	kept      bool
}

// find looks for the byte in the piece.
func (b *single) find(in, out span) bool {
	if b.at >= in.to {
		return false
	}
	if kept(in, out) {
		b.place, b.kept = out.from+b.at-in.from, true
	}
	return true
}

// extent has the ranges from the first piece to the last one that changes something.
type extent struct{ in, out span }

// cover extends the ranges to the piece, if it changes something.
func (x *extent) cover(in, out span) bool {
	if !kept(in, out) {
		x.in = span{min(x.in.from, in.from), in.to}
		x.out = span{min(x.out.from, out.from), out.to}
	}
	return false
}
