package transform_test

import (
	"fmt"
	"math"
	"math/rand"
	"slices"
	"strings"
	"testing"

	"quarto/api"
	"quarto/apply"
	"quarto/compose"
	"quarto/delta"
)

// This file has what the tests share: deltas of all sorts, and the definitions of the chapter, byte by byte.

func retain(n int) api.Piece          { return api.Piece{Kind: api.Retain, N: n} }
func remove(n int) api.Piece          { return api.Piece{Kind: api.Delete, N: n} }
func insert(s string) api.Piece       { return api.Piece{Kind: api.Insert, Text: s} }
func list(d ...api.Piece) []api.Piece { return d }

// times returns n times the same pieces.
func times(n int, d ...api.Piece) []api.Piece { return slices.Repeat(d, n) }

// chain returns the concatenation of sequences of pieces, as new memory.
func chain(l ...[]api.Piece) []api.Piece { return slices.Concat(l...) }

// The few pieces, two of each kind, with texts of their own for the first, the second and the third one of some deltas.
var (
	few1 = list(retain(1), retain(2), remove(1), remove(2), insert("A"), insert("B\n\xff"))
	few2 = list(retain(1), retain(2), remove(1), remove(2), insert("P"), insert("Q\x82"))
	few3 = list(retain(1), retain(2), remove(1), remove(2), insert("X"), insert("Y\xe2Z"))
)

// wrong are pieces that are not valid: of all kinds and of unknown ones, some of them too long as well.
var wrong = list(
	retain(0), retain(-1), retain(math.MinInt), api.Piece{Kind: api.Retain, N: 1, Text: "A"},
	remove(0), remove(-1), remove(math.MinInt), api.Piece{Kind: api.Delete, N: 1, Text: "A"},
	insert(""), api.Piece{Kind: api.Insert, N: 1, Text: "A"}, api.Piece{Kind: api.Insert, N: -1, Text: "A"}, api.Piece{Kind: api.Insert, N: 1},
	api.Piece{}, api.Piece{N: 1}, api.Piece{Text: "A"}, api.Piece{Kind: 4, N: 1}, api.Piece{Kind: 9, N: api.MaxDelta + 1}, api.Piece{Kind: 255, Text: "A"},
	api.Piece{Kind: api.Retain, N: math.MaxInt, Text: "A"}, api.Piece{Kind: api.Insert, N: math.MinInt, Text: "A"},
)

// withWrong calls f with deltas that have a piece that is not valid, before, between and behind valid ones.
func withWrong(f func(d []api.Piece)) {
	for _, p := range wrong {
		f(list(p))
		f(list(p, retain(1)))
		f(list(retain(1), p))
		f(list(insert("A"), p, remove(1)))
	}
}

// tooLong are deltas of valid pieces that are too long, by their lengths or by the number of their pieces.
var tooLong = [][]api.Piece{
	list(retain(api.MaxDelta + 1)), list(remove(api.MaxDelta + 1)), list(retain(math.MaxInt)), list(remove(math.MaxInt), remove(math.MaxInt), remove(3)),
	list(retain(api.MaxDelta), insert("A")), list(remove(1), retain(api.MaxDelta)), list(insert(strings.Repeat("A", api.MaxDelta+1))),
	times(api.MaxPieces+1, retain(1)), times(api.MaxPieces+1, remove(1)), times(api.MaxPieces+1, insert("A")),
}

// show prints the beginning of some deltas.
func show(l ...[]api.Piece) string {
	s := ""
	for _, d := range l {
		s += fmt.Sprintf("(%d: %.100q)", len(d), fmt.Sprint(d[:min(len(d), 8)]))
	}
	return s[:min(len(s), 400)]
}

// lengths are the definitions of the input length and the output length.
func lengths(d []api.Piece) (in, out int) {
	for _, p := range d {
		if p.Kind != api.Insert {
			in += p.N
		}
		if p.Kind == api.Retain {
			out += p.N
		}
		out += len(p.Text)
	}
	return in, out
}

// all returns each sequence of at most n of some pieces.
func all(pieces []api.Piece, n int) [][]api.Piece {
	l := [][]api.Piece{nil}
	for from := 0; n > 0; n-- {
		longest := l[from:]
		from = len(l)
		for _, d := range longest {
			for _, p := range pieces {
				l = append(l, append(slices.Clip(d), p))
			}
		}
	}
	return l
}

// byInput returns some deltas by their input lengths.
func byInput(l [][]api.Piece) map[int][][]api.Piece {
	m := map[int][][]api.Piece{}
	for _, d := range l {
		in, _ := lengths(d)
		m[in] = append(m[in], d)
	}
	return m
}

// random returns a long delta of some pieces that fits a string of n bytes.
func random(r *rand.Rand, pieces []api.Piece, n int) []api.Piece {
	d := list()
	for n > 0 || r.Intn(3) > 0 {
		if p := pieces[r.Intn(len(pieces))]; p.N <= n {
			d, n = append(d, p), n-p.N
		}
	}
	return d
}

// pairs calls f with all short deltas of the same input length, in normal form and not, and with some long ones.
func pairs(f func(a, b []api.Piece)) {
	second := byInput(all(few2, 4))
	for _, a := range all(few1, 4) {
		n, _ := lengths(a)
		for _, b := range second[n] {
			if len(a)+len(b) <= 6 {
				f(a, b)
			}
		}
	}
	r := rand.New(rand.NewSource(7))
	for range 100 {
		n := r.Intn(300)
		f(random(r, few1, n), random(r, few2, n))
	}
}

// triples calls f with all very short deltas of which d and x have the same input length and y follows x, and with some long ones.
func triples(f func(d, x, y []api.Piece)) {
	second, third := byInput(all(few2, 3)), byInput(all(few3, 2))
	for _, d := range all(few1, 3) {
		n, _ := lengths(d)
		for _, x := range second[n] {
			if len(d)+len(x) > 4 {
				continue
			}
			_, middle := lengths(x)
			for _, y := range third[middle] {
				f(d, x, y)
			}
		}
	}
	r := rand.New(rand.NewSource(8))
	for range 200 {
		n := r.Intn(60)
		x := random(r, few2, n)
		_, middle := lengths(x)
		f(random(r, few1, n), x, random(r, few3, middle))
	}
}

// edit is what a delta does to a string: for each byte whether it keeps it, and for each offset the text that its normal form inserts there.
type edit struct {
	keeps []bool
	texts []string
}

// edited returns the edit of a delta. In the normal form, a text stands at the beginning of its gap: directly behind the last byte before it that is kept.
func edited(d []api.Piece) edit {
	x, gap := edit{texts: []string{""}}, 0
	for _, p := range d {
		for range p.N {
			x.keeps, x.texts = append(x.keeps, p.Kind == api.Retain), append(x.texts, "")
			if p.Kind == api.Retain {
				gap = len(x.keeps)
			}
		}
		x.texts[gap] += p.Text
	}
	return x
}

// cell is a byte with its origin: its offset in an earlier string, or -1 if it was inserted.
type cell struct {
	from int
	b    byte
}

// inserted returns the cells of a text that is inserted.
func inserted(text string) []cell {
	var l []cell
	for i := range len(text) {
		l = append(l, cell{-1, text[i]})
	}
	return l
}

// normal returns the delta in normal form that makes these cells of a string of n bytes.
func normal(n int, l []cell) []api.Piece {
	out, kept, at, text := list(), 0, 0, ""
	// settle closes a gap that is followed by the byte at an offset, or by the end.
	settle := func(next int) {
		if kept > 0 && (text != "" || next > at) {
			out, kept = append(out, retain(kept)), 0
		}
		if text != "" {
			out = append(out, insert(text))
		}
		if next > at {
			out = append(out, remove(next-at))
		}
		text = ""
	}
	for _, c := range l {
		if c.from < 0 {
			text += string([]byte{c.b})
			continue
		}
		settle(c.from)
		kept, at = kept+1, c.from+1
	}
	settle(n)
	if kept > 0 {
		out = append(out, retain(kept))
	}
	return out
}

// transformed is the definition of the transformed delta of b against a.
func transformed(a, b []api.Piece, first bool) []api.Piece {
	x, y := edited(a), edited(b)
	var l []cell
	place := 0 // in the result of a
	for p, text := range x.texts {
		var mine []cell
		for range len(text) {
			mine = append(mine, cell{from: place})
			place++
		}
		if first {
			l = append(append(l, mine...), inserted(y.texts[p])...)
		} else {
			l = append(append(l, inserted(y.texts[p])...), mine...)
		}
		if p < len(x.keeps) && x.keeps[p] {
			if y.keeps[p] {
				l = append(l, cell{from: place})
			}
			place++
		}
	}
	return normal(place, l)
}

// merged is the definition of the merge: the delta that makes the merged result of the string and keeps exactly the bytes that both keep.
func merged(a, b []api.Piece, first bool) []api.Piece {
	x, y := edited(a), edited(b)
	var l []cell
	for p := range x.texts {
		if first {
			l = append(l, inserted(x.texts[p]+y.texts[p])...)
		} else {
			l = append(l, inserted(y.texts[p]+x.texts[p])...)
		}
		if p < len(x.keeps) && x.keeps[p] && y.keeps[p] {
			l = append(l, cell{from: p})
		}
	}
	return normal(len(x.keeps), l)
}

// result is the definition of the merged result for a string.
func result(s string, a, b []api.Piece, first bool) string {
	x, y := edited(a), edited(b)
	var l []byte
	for p := range x.texts {
		if first {
			l = append(append(l, x.texts[p]...), y.texts[p]...)
		} else {
			l = append(append(l, y.texts[p]...), x.texts[p]...)
		}
		if p < len(s) && x.keeps[p] && y.keeps[p] {
			l = append(l, s[p])
		}
	}
	return string(l)
}

// apart is the definition of disjoint deltas.
func apart(a, b []api.Piece) bool {
	x, y := edited(a), edited(b)
	for p := range x.texts {
		if x.texts[p] != "" && y.texts[p] != "" {
			return false
		}
		if p < len(x.keeps) && !x.keeps[p] && !y.keeps[p] {
			return false
		}
	}
	return true
}

// same checks that two deltas are the same.
func same(t *testing.T, what string, got, want []api.Piece) {
	t.Helper()
	if !slices.Equal(got, want) {
		t.Fatalf("%s: %s; want %s", what, show(got), show(want))
	}
}

// normalized returns the normal form of d.
func normalized(t *testing.T, d []api.Piece) []api.Piece {
	t.Helper()
	n, e := delta.Normalize(d...)
	if e != api.OK {
		t.Fatalf("Normalize%s: %d", show(d), e)
	}
	return n
}

// identity returns the delta that keeps n bytes.
func identity(t *testing.T, n int) []api.Piece {
	t.Helper()
	d, e := delta.Identity(n)
	if e != api.OK {
		t.Fatalf("Identity(%d): %d", n, e)
	}
	return d
}

// composed returns the composition of a and b.
func composed(t *testing.T, a, b []api.Piece) []api.Piece {
	t.Helper()
	d, e := compose.Compose(a, b)
	if e != api.OK {
		t.Fatalf("Compose%s: %d", show(a, b), e)
	}
	return d
}

// applied returns what d makes of s.
func applied(t *testing.T, s string, d []api.Piece) string {
	t.Helper()
	r, e := apply.Apply(s, d...)
	if e != api.OK {
		t.Fatalf("Apply(%q, %s): %d", s, show(d), e)
	}
	return r
}
