package delta

import (
	"strconv"
	"strings"

	"quarto/api"
)

// The signs with which the text forms of pieces begin.
const (
	retainSign = '='
	insertSign = '+'
	deleteSign = '-'
)

// digits are the digits of numbers and of bytes, by their value.
const digits = "0123456789abcdef"

// appendPiece appends the text form of a valid piece.
func appendPiece(b []byte, p api.Piece) []byte {
	switch p.Kind {
	case api.Retain:
		return strconv.AppendInt(append(b, retainSign), int64(p.N), 10)
	case api.Delete:
		return strconv.AppendInt(append(b, deleteSign), int64(p.N), 10)
	}
	b = append(b, insertSign)
	for i := range len(p.Text) {
		b = append(b, digits[p.Text[i]>>4], digits[p.Text[i]&15])
	}
	return b
}

// reader reads the text form of a sequence of pieces. Its methods panic if the text does not have that form.
type reader struct {
	s  string
	at int
}

// read returns the pieces whose text form is s; ErrForm if it is none.
func read(s string) (d []api.Piece, e api.Errno) {
	defer func() {
		if failure := recover(); failure != nil {
			d, e = nil, api.ErrForm
		}
	}()
	r := reader{s: s}
	return r.pieces(), api.OK
}

// pieces reads all pieces.
func (r *reader) pieces() []api.Piece {
	if r.s == "" {
		return nil
	}
	d := []api.Piece{r.piece()}
	for r.at < len(r.s) {
		r.at++ // the blank that ended the piece
		d = append(d, r.piece())
	}
	return d
}

// piece reads a piece.
func (r *reader) piece() api.Piece {
	switch r.next() {
	case retainSign:
		return api.Piece{Kind: api.Retain, N: r.number()}
	case deleteSign:
		return api.Piece{Kind: api.Delete, N: r.number()}
	case insertSign:
		return api.Piece{Kind: api.Insert, Text: r.text()}
	}
	r.fail()
	return api.Piece{}
}

// number reads a number from 1 to MaxDelta.
func (r *reader) number() int {
	n := 0
	for !r.ended() {
		n = 10*n + r.digit(10)
		// Checked at each digit: a 0 must not come first, and a longer number could wrap around.
		if n < 1 || n > api.MaxDelta {
			r.fail()
		}
	}
	if n == 0 {
		r.fail()
	}
	return n
}

// text reads a text that is not empty.
func (r *reader) text() string {
	var b []byte
	for !r.ended() {
		high := r.digit(16)
		b = append(b, byte(high<<4|r.digit(16)))
	}
	if len(b) == 0 {
		r.fail()
	}
	return string(b)
}

// ended reports whether the piece that is read ends here.
func (r *reader) ended() bool {
	return r.at == len(r.s) || r.s[r.at] == ' '
}

// digit reads a digit that is less than base, and returns its value.
func (r *reader) digit(base int) int {
	value := strings.IndexByte(digits[:base], r.next())
	if value < 0 {
		r.fail()
	}
	return value
}

// next reads a byte.
func (r *reader) next() byte {
	if r.at == len(r.s) {
		r.fail()
	}
	r.at++
	return r.s[r.at-1]
}

// fail ends the reading.
func (r *reader) fail() {
	panic(api.ErrForm)
}
