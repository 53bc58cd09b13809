package compose

import "quarto/api"

// producer is a piece of the first one of two deltas, which produces bytes of the string between them.
type producer api.Piece

// consumer is a piece of the second one of two deltas, which consumes bytes of the string between them.
type consumer api.Piece

// side is a piece of one of two deltas; size returns the number of bytes of the string between them that it stands for.
type side interface {
	producer | consumer
	size() int
}

// size returns the number of bytes that the piece produces.
func (p producer) size() int {
	if p.Kind == api.Delete {
		return 0
	}
	return p.N + len(p.Text) // one of them is 0
}

// size returns the number of bytes that the piece consumes.
func (p consumer) size() int {
	return p.N // 0 for Insert
}

// reader hands out the pieces of a delta from the first one on, whole or cut.
type reader[P side] struct {
	held   P // what comes next: a piece, or what is left of one; the zero piece at the end
	behind []api.Piece
}

// read returns a reader of a valid delta.
func read[P side](d []api.Piece) *reader[P] {
	r := &reader[P]{behind: d}
	r.next()
	return r
}

// ended reports whether nothing is left.
func (r *reader[P]) ended() bool {
	return api.Piece(r.held).Kind == 0
}

// apart reports whether the held piece has no part in the string between the deltas: what the first one removes, or the second one inserts.
func (r *reader[P]) apart() bool {
	return !r.ended() && r.held.size() == 0
}

// next hands out the held piece.
func (r *reader[P]) next() P {
	p := r.held
	if len(r.behind) == 0 {
		r.held = P(api.Piece{})
		return p
	}
	r.held, r.behind = P(r.behind[0]), r.behind[1:]
	return p
}

// take hands out the first n bytes of the held piece, which has at least that many.
func (r *reader[P]) take(n int) P {
	if n == r.held.size() {
		return r.next()
	}
	var p P
	p, r.held = cut(r.held, n)
	return p
}

// cut returns the first n bytes of a piece, and the others. Both are copies but for what they stand for.
func cut[P side](p P, n int) (head, tail P) {
	x, y := api.Piece(p), api.Piece(p)
	if x.Kind == api.Insert {
		x.Text, y.Text = x.Text[:n], y.Text[n:]
	} else {
		x.N, y.N = n, y.N-n
	}
	return P(x), P(y)
}
