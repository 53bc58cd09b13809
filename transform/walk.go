package transform

import (
	"quarto/api"
	"quarto/delta"
)

// walk goes through two deltas of the same string, from its beginning to its end, and tells what both do.
type walk struct {
	a, b   []api.Piece             // normal forms with the same input length: the pieces that it has not reached
	insert func(a, b string)       // told the texts that both insert at an offset; one of them may be empty
	cover  func(a, b uint8, n int) // told the kinds of the pieces that cover the next n bytes: Retain or Delete
}

// state is a state of a walk. It is given what is left over of the pieces that the walk has reached, leaves there what it does not use up, and returns the next state; nil ends the walk.
type state func(a, b *api.Piece) state

// walkOver returns a walk over two deltas; an error unless they are valid and have the same input length.
func walkOver(a, b []api.Piece) (*walk, api.Errno) {
	n, _, e := delta.Lengths(a...)
	if e != api.OK {
		return nil, e
	}
	m, _, e := delta.Lengths(b...)
	if e != api.OK {
		return nil, e
	}
	if n != m {
		return nil, api.ErrBase
	}
	// Neither has an error: both are valid.
	x, _ := delta.Normalize(a...)
	y, _ := delta.Normalize(b...)
	return &walk{a: x, b: y}, api.OK
}

// run performs the walk.
func (w *walk) run() {
	var a, b api.Piece
	for next := state(w.reach); next != nil; {
		next = next(&a, &b)
	}
}

// reach goes on to the next piece of each delta of whose piece nothing is left over. Only then is it known whether both insert at this offset.
func (w *walk) reach(a, b *api.Piece) state {
	w.a, w.b = advance(a, w.a), advance(b, w.b)
	switch {
	case a.Text != "" || b.Text != "":
		return w.texts
	case a.N > 0 && b.N > 0:
		return w.bytes
	}
	return nil // both at once, since they have the same input length
}

// texts tells the texts at this offset: in a normal form there is at most one.
func (w *walk) texts(a, b *api.Piece) state {
	w.insert(a.Text, b.Text) // Text is empty but for Insert
	a.Text, b.Text = "", ""
	return w.reach
}

// bytes tells what covers the bytes from this offset on, as far as both pieces cover them.
func (w *walk) bytes(a, b *api.Piece) state {
	n := min(a.N, b.N)
	w.cover(a.Kind, b.Kind, n)
	a.N, b.N = a.N-n, b.N-n
	return w.reach
}

// advance replaces a piece of which nothing is left over with the first one behind it (with the zero piece at the end), and returns the pieces that are then behind it.
func advance(p *api.Piece, behind []api.Piece) []api.Piece {
	if p.N > 0 || p.Text != "" {
		return behind
	}
	if len(behind) == 0 {
		*p = api.Piece{}
		return nil
	}
	*p = behind[0]
	return behind[1:]
}
