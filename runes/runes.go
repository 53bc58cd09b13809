// Package runes works with UTF-8 strings and rune boundaries (layer 1, doc/01-runes.md).
package runes

import (
	"iter"

	"quarto/api"
)

// The numbers that are runes, and those between them that are not.
const (
	maxRune      = 1114111
	minSurrogate = 55296
	maxSurrogate = 57343
)

// bases holds what the first byte of an encoding has besides the highest bits of the rune, by the number of its bytes.
var bases = [5]int{0, 0, 192, 224, 240}

// Valid reports whether s is valid UTF-8.
func Valid(s string) bool {
	for s != "" {
		_, size, e := Decode(s)
		if e != api.OK {
			return false
		}
		s = s[size:]
	}
	return true
}

// Boundary reports whether at is a boundary of s.
func Boundary(s string, at int) bool {
	if at < 0 || at > len(s) {
		return false
	}
	return at == len(s) || !continues(s[at])
}

// Count returns the number of bytes of s that are not continuation bytes.
func Count(s string) int {
	n := 0
	for range ascending(s, 0) {
		n++
	}
	return n - 1 // the length is a boundary too, but no byte
}

// Decode returns the rune that the first bytes of s encode, and their number.
func Decode(s string) (r int, size int, e api.Errno) {
	if s == "" {
		return 0, 0, api.ErrRange
	}
	size = extent(s[0])
	if size == 0 || size > len(s) {
		return 0, 0, api.ErrUTF8
	}
	r = int(s[0]) - bases[size]
	for i := 1; i < size; i++ {
		if !continues(s[i]) {
			return 0, 0, api.ErrUTF8
		}
		r = r<<6 | int(s[i])&63
	}
	// The bits alone also form overlong encodings and numbers that are no runes.
	if !isRune(r) || width(r) != size {
		return 0, 0, api.ErrUTF8
	}
	return r, size, api.OK
}

// Encode returns the encoding of a rune.
func Encode(r int) (string, api.Errno) {
	if !isRune(r) {
		return "", api.ErrArg
	}
	b := make([]byte, width(r))
	for i := len(b) - 1; i > 0; i-- {
		b[i] = byte(128 | r&63)
		r >>= 6
	}
	b[0] = byte(bases[len(b)] | r)
	return string(b), api.OK
}

// Next returns the least boundary of s that is greater than at.
func Next(s string, at int) (int, bool) {
	// At is brought near the string first, where adding one cannot wrap around.
	return first(ascending(s, min(max(at, -1), len(s))+1))
}

// Prev returns the greatest boundary of s that is less than at.
func Prev(s string, at int) (int, bool) {
	return first(descending(s, min(max(at, 0), len(s)+1)-1))
}

// Clip returns the longest prefix of s of at most n bytes that ends at a boundary.
func Clip(s string, n int) string {
	at, _ := first(descending(s, min(n, len(s))))
	return s[:at]
}

// continues reports whether b is a continuation byte.
func continues(b byte) bool {
	return b >= 128 && b < 192
}

// isRune reports whether r is a rune.
func isRune(r int) bool {
	return r >= 0 && r <= maxRune && (r < minSurrogate || r > maxSurrogate)
}

// width returns the number of bytes of the encoding of a rune.
func width(r int) int {
	switch {
	case r < 128:
		return 1
	case r < 2048:
		return 2
	case r < 65536:
		return 3
	}
	return 4
}

// extent returns the number of bytes that a first byte allows: 0 if no encoding begins with it.
func extent(b byte) int {
	n := 0
	switch {
	case b >= 248:
		// No encoding has more than 4 bytes.
	case b >= 240:
		n++
		fallthrough
	case b >= 224:
		n++
		fallthrough
	case b >= 192:
		n++
		fallthrough
	case b < 128: // continuation bytes come to no case
		n++
	}
	return n
}

// ascending visits the boundaries of s that are at least from, which is not negative, from the least one on.
func ascending(s string, from int) iter.Seq[int] {
	return func(yield func(int) bool) {
		for at := from; at <= len(s); at++ {
			if Boundary(s, at) && !yield(at) {
				return
			}
		}
	}
}

// descending visits the boundaries of s that are at most from, which is not beyond the end, from the greatest one on.
func descending(s string, from int) iter.Seq[int] {
	return func(yield func(int) bool) {
		for at := from; at >= 0; at-- {
			if Boundary(s, at) && !yield(at) {
				return
			}
		}
	}
}

// first returns the first one of some offsets; 0 and false if there is none.
func first(offsets iter.Seq[int]) (int, bool) {
	for at := range offsets {
		return at, true
	}
	return 0, false
}
