package delta

import "quarto/api"

// normalizer builds a normal form: the pieces that are settled, and what the pieces behind them can still grow. It has either kept bytes or a gap.
type normalizer struct {
	settled  []api.Piece
	kept     int
	inserted []byte
	removed  int
}

// normalForm returns the normal form of the concatenation of sequences of valid pieces.
func normalForm(l ...[]api.Piece) []api.Piece {
	var n normalizer
	for _, d := range l {
		for _, p := range d {
			n.add(p)
		}
	}
	n.settleKept()
	n.settleGap()
	return n.settled
}

// add appends a valid piece.
func (n *normalizer) add(p api.Piece) {
	switch p.Kind {
	case api.Retain:
		n.settleGap()
		n.kept += p.N
	case api.Insert:
		n.settleKept()
		n.inserted = append(n.inserted, p.Text...)
	case api.Delete:
		n.settleKept()
		n.removed += p.N
	}
}

// settleKept settles the kept bytes, if there are any.
func (n *normalizer) settleKept() {
	if n.kept > 0 {
		n.settled = append(n.settled, api.Piece{Kind: api.Retain, N: n.kept})
	}
	n.kept = 0
}

// settleGap settles what is inserted and removed in the gap, if it is not empty.
func (n *normalizer) settleGap() {
	if len(n.inserted) > 0 {
		n.settled = append(n.settled, api.Piece{Kind: api.Insert, Text: string(n.inserted)})
	}
	if n.removed > 0 {
		n.settled = append(n.settled, api.Piece{Kind: api.Delete, N: n.removed})
	}
	n.inserted, n.removed = n.inserted[:0], 0
}
