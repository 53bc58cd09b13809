package compose

import (
	"fmt"
	"math"
	"math/rand"
	"slices"
	"strings"
	"testing"

	"quarto/api"
	"quarto/apply"
	"quarto/delta"
)

func retain(n int) api.Piece          { return api.Piece{Kind: api.Retain, N: n} }
func remove(n int) api.Piece          { return api.Piece{Kind: api.Delete, N: n} }
func insert(s string) api.Piece       { return api.Piece{Kind: api.Insert, Text: s} }
func list(d ...api.Piece) []api.Piece { return d }

// times returns n times the same pieces.
func times(n int, d ...api.Piece) []api.Piece { return slices.Repeat(d, n) }

// chain returns the concatenation of sequences of pieces, as new memory.
func chain(l ...[]api.Piece) []api.Piece { return slices.Concat(l...) }

// The few pieces, two of each kind, with texts of their own for the first, the second and the third one of some deltas.
var (
	few1 = list(retain(1), retain(2), remove(1), remove(2), insert("A"), insert("B\n\xff"))
	few2 = list(retain(1), retain(2), remove(1), remove(2), insert("P"), insert("Q\x82"))
	few3 = list(retain(1), retain(2), remove(1), remove(2), insert("X"), insert("Y\xe2Z"))
)

// wrong are pieces that are not valid: of all kinds and of unknown ones, some of them too long as well.
var wrong = list(
	retain(0), retain(-1), retain(math.MinInt), api.Piece{Kind: api.Retain, N: 1, Text: "A"},
	remove(0), remove(-1), remove(math.MinInt), api.Piece{Kind: api.Delete, N: 1, Text: "A"},
	insert(""), api.Piece{Kind: api.Insert, N: 1, Text: "A"}, api.Piece{Kind: api.Insert, N: -1, Text: "A"}, api.Piece{Kind: api.Insert, N: 1},
	api.Piece{}, api.Piece{N: 1}, api.Piece{Text: "A"}, api.Piece{Kind: 4, N: 1}, api.Piece{Kind: 9, N: api.MaxDelta + 1}, api.Piece{Kind: 255, Text: "A"},
	api.Piece{Kind: api.Retain, N: math.MaxInt, Text: "A"}, api.Piece{Kind: api.Insert, N: math.MinInt, Text: "A"},
)

// tooLong are deltas of valid pieces that are too long, by their lengths or by the number of their pieces.
var tooLong = [][]api.Piece{
	list(retain(api.MaxDelta + 1)), list(remove(api.MaxDelta + 1)), list(retain(math.MaxInt)), list(remove(math.MaxInt), remove(math.MaxInt), remove(3)),
	list(retain(api.MaxDelta), insert("A")), list(remove(1), retain(api.MaxDelta)), list(insert(strings.Repeat("A", api.MaxDelta+1))),
	times(api.MaxPieces+1, retain(1)), times(api.MaxPieces+1, remove(1)), times(api.MaxPieces+1, insert("A")),
}

// show prints the beginning of some deltas.
func show(l ...[]api.Piece) string {
	s := ""
	for _, d := range l {
		s += fmt.Sprintf("(%d: %.100q)", len(d), fmt.Sprint(d[:min(len(d), 8)]))
	}
	return s[:min(len(s), 400)]
}

// lengths are the definitions of the input length and the output length.
func lengths(d []api.Piece) (in, out int) {
	for _, p := range d {
		if p.Kind != api.Insert {
			in += p.N
		}
		if p.Kind == api.Retain {
			out += p.N
		}
		out += len(p.Text)
	}
	return in, out
}

// counts returns how many bytes a delta keeps, inserts and removes.
func counts(d []api.Piece) (kept, inserted, removed int) {
	for _, p := range d {
		switch p.Kind {
		case api.Retain:
			kept += p.N
		case api.Insert:
			inserted += len(p.Text)
		case api.Delete:
			removed += p.N
		}
	}
	return kept, inserted, removed
}

// all returns each sequence of at most n of some pieces.
func all(pieces []api.Piece, n int) [][]api.Piece {
	l := [][]api.Piece{nil}
	for from := 0; n > 0; n-- {
		longest := l[from:]
		from = len(l)
		for _, d := range longest {
			for _, p := range pieces {
				l = append(l, append(slices.Clip(d), p))
			}
		}
	}
	return l
}

// byInput returns some deltas by their input lengths.
func byInput(l [][]api.Piece) map[int][][]api.Piece {
	m := map[int][][]api.Piece{}
	for _, d := range l {
		in, _ := lengths(d)
		m[in] = append(m[in], d)
	}
	return m
}

// pairs calls f with all short deltas that follow one another, and with some long ones.
func pairs(f func(a, b []api.Piece)) {
	second := byInput(all(few2, 4))
	for _, a := range all(few1, 4) {
		_, middle := lengths(a)
		for _, b := range second[middle] {
			if len(a)+len(b) <= 6 {
				f(a, b)
			}
		}
	}
	r := rand.New(rand.NewSource(5))
	for range 50 {
		n := r.Intn(300)
		a := random(r, few1, n)
		_, middle := lengths(a)
		f(a, random(r, few2, middle))
	}
}

// random returns a long delta of some pieces that fits a string of n bytes.
func random(r *rand.Rand, pieces []api.Piece, n int) []api.Piece {
	d := list()
	for n > 0 || r.Intn(3) > 0 {
		if p := pieces[r.Intn(len(pieces))]; p.N <= n {
			d, n = append(d, p), n-p.N
		}
	}
	return d
}

// cell is a byte of a string with its origin: the offset in the first string, or -1 if it was inserted.
type cell struct {
	from int
	b    byte
}

// cells returns the cells of a string of n bytes whose content does not matter.
func cells(n int) []cell {
	l := make([]cell, n)
	for i := range l {
		l[i].from = i
	}
	return l
}

// done returns what a delta makes of some cells, by the definition of a delta.
func done(l []cell, d []api.Piece) []cell {
	var out []cell
	for _, p := range d {
		switch p.Kind {
		case api.Retain:
			out, l = append(out, l[:p.N]...), l[p.N:]
		case api.Insert:
			for i := range len(p.Text) {
				out = append(out, cell{-1, p.Text[i]})
			}
		case api.Delete:
			l = l[p.N:]
		}
	}
	return out
}

// normal returns the delta in normal form that makes these cells of a string of n bytes.
func normal(n int, l []cell) []api.Piece {
	out, kept, at, text := list(), 0, 0, ""
	// settle closes a gap that is followed by the byte at an offset, or by the end.
	settle := func(next int) {
		if kept > 0 && (text != "" || next > at) {
			out, kept = append(out, retain(kept)), 0
		}
		if text != "" {
			out = append(out, insert(text))
		}
		if next > at {
			out = append(out, remove(next-at))
		}
		text = ""
	}
	for _, c := range l {
		if c.from < 0 {
			text += string([]byte{c.b})
			continue
		}
		settle(c.from)
		kept, at = kept+1, c.from+1
	}
	settle(n)
	if kept > 0 {
		out = append(out, retain(kept))
	}
	return out
}

// definition returns the composition of deltas that follow one another, by its definition.
func definition(n int, l ...[]api.Piece) []api.Piece {
	whole := cells(n)
	for _, d := range l {
		whole = done(whole, d)
	}
	return normal(n, whole)
}

// composed returns the composition of a and b.
func composed(t *testing.T, a, b []api.Piece) []api.Piece {
	t.Helper()
	d, e := Compose(a, b)
	if e != api.OK {
		t.Fatalf("Compose%s: %d", show(a, b), e)
	}
	return d
}

// normalized returns the normal form of d.
func normalized(t *testing.T, d []api.Piece) []api.Piece {
	t.Helper()
	n, e := delta.Normalize(d...)
	if e != api.OK {
		t.Fatalf("Normalize%s: %d", show(d), e)
	}
	return n
}

// identity returns the delta that keeps n bytes.
func identity(t *testing.T, n int) []api.Piece {
	t.Helper()
	d, e := delta.Identity(n)
	if e != api.OK {
		t.Fatalf("Identity(%d): %d", n, e)
	}
	return d
}

// same checks that two deltas are the same.
func same(t *testing.T, what string, got, want []api.Piece) {
	t.Helper()
	if !slices.Equal(got, want) {
		t.Fatalf("%s: %s; want %s", what, show(got), show(want))
	}
}

// follows checks that b follows a, and that this is their composition.
func follows(t *testing.T, a, b, want []api.Piece) {
	t.Helper()
	if d, e := Compose(a, b); !slices.Equal(d, want) || e != api.OK {
		t.Fatalf("Compose%s: %s, %d; want %s", show(a, b), show(d), e, show(want))
	}
	if !Fits(a, b) {
		t.Fatalf("Fits%s: false", show(a, b))
	}
}

// refused checks that a and b have no composition, and whether they fit.
func refused(t *testing.T, a, b []api.Piece, e api.Errno, fits bool) {
	t.Helper()
	if d, is := Compose(a, b); len(d) != 0 || is != e {
		t.Fatalf("Compose%s: %s, %d; want %d", show(a, b), show(d), is, e)
	}
	if Fits(a, b) != fits {
		t.Fatalf("Fits%s: %t", show(a, b), !fits)
	}
}

// P5.1: ordinary deltas, in normal form and not.
func TestCompose(t *testing.T) {
	pairs(func(a, b []api.Piece) {
		n, _ := lengths(a)
		follows(t, a, b, definition(n, a, b))
	})
}

// P5.1: the result is that of b for the result of a, for strings of any bytes.
func TestComposeResult(t *testing.T) {
	r := rand.New(rand.NewSource(6))
	for range 300 {
		s := make([]byte, r.Intn(60))
		r.Read(s)
		a := random(r, few1, len(s))
		_, middle := lengths(a)
		b := random(r, few2, middle)
		between, e1 := apply.Apply(string(s), a...)
		want, e2 := apply.Apply(between, b...)
		got, e3 := apply.Apply(string(s), composed(t, a, b)...)
		if got != want || e1 != api.OK || e2 != api.OK || e3 != api.OK {
			t.Fatalf("%q by Compose%s: %q, %d; want %q, %d, %d", s, show(a, b), got, e3, want, e1, e2)
		}
	}
}

// P5.1: the chapter's examples, the empty delta, and deltas that do one thing only.
func TestComposeExamples(t *testing.T) {
	for _, x := range []struct{ a, b, want []api.Piece }{
		{list(retain(1), insert("xy"), retain(1)), list(retain(2), remove(1), retain(1)), list(retain(1), insert("x"), retain(1))},
		{list(remove(1), retain(1)), list(insert("z"), retain(1)), list(insert("z"), remove(1), retain(1))},
		{list(insert("a")), list(remove(1)), nil},
		{nil, nil, nil},
		{list(), nil, nil},
		{nil, list(insert("a")), list(insert("a"))},
		{nil, list(insert("a"), insert("b")), list(insert("ab"))},
		{list(remove(3)), nil, list(remove(3))},
		{list(remove(1), remove(2)), list(), list(remove(3))},
		{list(retain(3)), list(retain(3)), list(retain(3))},
		{list(retain(1), retain(2)), list(retain(2), retain(1)), list(retain(3))},
		{list(retain(3)), list(remove(3)), list(remove(3))},
		{list(retain(1), retain(2)), list(remove(2), retain(1)), list(remove(2), retain(1))},
		{list(insert("abc")), list(retain(3)), list(insert("abc"))},
		{list(insert("abc")), list(remove(1), retain(1), remove(1)), list(insert("b"))},
		{list(insert("abc")), list(retain(1), remove(1), retain(1)), list(insert("ac"))},
		{list(insert("abc")), list(retain(1), insert("-"), retain(2)), list(insert("a-bc"))},
		{list(insert("abc")), list(insert("<"), retain(3), insert(">")), list(insert("<abc>"))},
		{list(insert("abc")), list(remove(3), insert("q")), list(insert("q"))},
		{list(remove(2)), list(insert("q")), list(insert("q"), remove(2))},
		{list(remove(2), insert("ab")), list(remove(1), retain(1), insert("q")), list(insert("bq"), remove(2))},
		{list(retain(1), insert("ab"), remove(2), insert("cd"), retain(1)), list(retain(2), remove(2), retain(2)), list(retain(1), insert("ad"), remove(2), retain(1))},
		{list(retain(1), insert("ab"), retain(1)), list(remove(4)), list(remove(2))},
		{list(retain(2), insert("a"), retain(2)), list(retain(1), remove(3), retain(1)), list(retain(1), remove(2), retain(1))},
		{list(retain(1), remove(1), retain(1)), list(retain(1), remove(1)), list(retain(1), remove(2))},
		{list(retain(1), remove(1), retain(1)), list(retain(1), insert("q"), retain(1)), list(retain(1), insert("q"), remove(1), retain(1))},
		{list(retain(2)), list(remove(1), insert("q"), remove(1), insert("r")), list(insert("qr"), remove(2))},
		{list(retain(4)), list(retain(1), remove(1), retain(1), remove(1)), list(retain(1), remove(1), retain(1), remove(1))},
	} {
		follows(t, x.a, x.b, x.want)
	}
}

// P5.1: an output length that is not the input length, by one and by more.
func TestBase(t *testing.T) {
	l := all(few1, 3)
	for _, a := range l {
		_, middle := lengths(a)
		for _, b := range all(few2, 2) {
			if in, _ := lengths(b); in != middle {
				refused(t, a, b, api.ErrBase, false)
			}
		}
		refused(t, a, list(retain(middle+1)), api.ErrBase, false)
		refused(t, a, list(remove(middle+1)), api.ErrBase, false)
		if middle > 1 {
			refused(t, a, list(retain(middle-1)), api.ErrBase, false)
			refused(t, a, list(insert("P"), remove(middle-1)), api.ErrBase, false)
		}
	}
	refused(t, list(retain(1)), list(retain(2)), api.ErrBase, false)
	refused(t, list(retain(2)), list(retain(1)), api.ErrBase, false)
	refused(t, nil, list(retain(1)), api.ErrBase, false)
	refused(t, list(insert("a")), nil, api.ErrBase, false)
	refused(t, list(remove(1)), list(remove(1)), api.ErrBase, false)
	refused(t, list(insert("a")), list(insert("a")), api.ErrBase, false)
	refused(t, list(retain(api.MaxDelta)), list(retain(api.MaxDelta-1)), api.ErrBase, false)
	refused(t, list(retain(api.MaxDelta-1)), list(remove(api.MaxDelta)), api.ErrBase, false)
}

// withWrong calls f with deltas that have a piece that is not valid, before, between and behind valid ones.
func withWrong(f func(d []api.Piece)) {
	for _, p := range wrong {
		f(list(p))
		f(list(p, retain(1)))
		f(list(retain(1), p))
		f(list(insert("A"), p, remove(1)))
	}
}

// P5.1: deltas that Check refuses, as the first one, the second one or both: the error of the first one comes first.
func TestNotValid(t *testing.T) {
	others := [][]api.Piece{nil, list(retain(1)), list(retain(2)), list(insert("A")), list(remove(1)), list(retain(api.MaxDelta))}
	withWrong(func(d []api.Piece) {
		for _, other := range others {
			refused(t, d, other, api.ErrArg, false)
			refused(t, other, d, api.ErrArg, false)
		}
		refused(t, d, d, api.ErrArg, false)
		for _, long := range tooLong {
			refused(t, d, long, api.ErrArg, false)
			refused(t, long, d, api.ErrLong, false)
		}
	})
	for _, long := range tooLong {
		for _, other := range others {
			refused(t, long, other, api.ErrLong, false)
			refused(t, other, long, api.ErrLong, false)
		}
		refused(t, long, long, api.ErrLong, false)
	}
}

// P5.1: compositions of exactly MaxPieces pieces, and of one more.
func TestMaxPieces(t *testing.T) {
	const most, half, third = api.MaxPieces, api.MaxPieces / 2, api.MaxPieces / 3
	zigzag := times(half, retain(1), remove(1))
	follows(t, list(retain(most)), zigzag, zigzag)
	follows(t, zigzag, list(retain(half)), zigzag)
	follows(t, zigzag, list(remove(1), retain(half-1)), chain(list(remove(2)), zigzag[2:]))
	refused(t, zigzag, list(insert("P"), retain(half)), api.ErrLong, true)
	refused(t, zigzag, list(retain(half), insert("P")), api.ErrLong, true)
	refused(t, zigzag, list(retain(1), insert("P"), retain(half-1)), api.ErrLong, true)
	refused(t, list(insert("A"), retain(most)), chain(list(retain(2)), zigzag[1:]), api.ErrLong, true)
	refused(t, list(remove(1), retain(most)), zigzag, api.ErrLong, true)

	a, b := times(third, retain(1), remove(1)), times(third, insert("P"), retain(1))
	ab := chain(list(insert("P")), times(third-1, retain(1), insert("P"), remove(1)), list(retain(1), remove(1)))
	follows(t, a, b, ab)
	follows(t, chain(a, list(retain(1))), chain(b, list(retain(1))), chain(ab, list(retain(1))))
	refused(t, chain(a, list(retain(1))), chain(b, list(retain(1), insert("Q"))), api.ErrLong, true)
	refused(t, chain(a, list(retain(1), remove(1))), chain(b, list(retain(1))), api.ErrLong, true)
}

// P5.1: it is the normal form that may have MaxPieces pieces, not the pieces of both deltas.
func TestManyPieces(t *testing.T) {
	const most, half = api.MaxPieces, api.MaxPieces / 2
	shifted := func(p func(n int) api.Piece) []api.Piece {
		return chain(list(p(1)), times(most-2, p(2)), list(p(3)))
	}
	letters := strings.Repeat("AB", most)
	follows(t, times(most, retain(2)), shifted(retain), list(retain(2*most)))
	follows(t, times(most, retain(2)), shifted(remove), list(remove(2*most)))
	follows(t, times(most, insert("AB")), shifted(retain), list(insert(letters)))
	follows(t, times(most, insert("AB")), shifted(remove), nil)
	follows(t, times(most, remove(1)), times(most, insert("P")), list(insert(strings.Repeat("P", most)), remove(most)))
	follows(t, chain(times(most-1, remove(1)), list(retain(1))), chain(list(retain(1)), times(most-1, insert("P"))), list(remove(most-1), retain(1), insert(strings.Repeat("P", most-1))))

	a, zigzag := times(half, retain(2), remove(1)), times(half, retain(2), remove(1))
	follows(t, a, times(most, retain(1)), zigzag)
	refused(t, a, chain(list(insert("P")), times(most-2, retain(1)), list(retain(2))), api.ErrLong, true)
	follows(t, a, chain(times(most-2, remove(1)), list(retain(2))), list(remove(3*half-3), retain(2), remove(1)))
}

// P5.1: lengths of exactly MaxDelta.
func TestMaxDelta(t *testing.T) {
	const most = api.MaxDelta
	long, other := strings.Repeat("ABCD", most/4), strings.Repeat("PQ", most/2)
	for _, x := range []struct{ a, b, want []api.Piece }{
		{list(retain(most)), list(retain(most)), list(retain(most))},
		{list(retain(most)), list(remove(most)), list(remove(most))},
		{list(remove(most)), nil, list(remove(most))},
		{list(remove(most)), list(insert(other)), list(insert(other), remove(most))},
		{nil, list(insert(long)), list(insert(long))},
		{list(insert(long)), list(retain(most)), list(insert(long))},
		{list(insert(long)), list(remove(most)), nil},
		{list(insert(long)), list(retain(most-1), remove(1)), list(insert(long[:most-1]))},
		{list(insert(long)), list(insert(other), remove(most)), list(insert(other))},
		{list(insert(long), remove(most)), list(remove(most), insert(other)), list(insert(other), remove(most))},
		{list(remove(1), retain(most-1)), list(retain(most-1), insert("P")), list(remove(1), retain(most-1), insert("P"))},
		{list(retain(most-1), insert("A"), remove(1)), list(remove(1), insert("P"), retain(most-1)), list(insert("P"), remove(1), retain(most-2), insert("A"), remove(1))},
	} {
		follows(t, x.a, x.b, x.want)
	}
}

// P5.1, Fits: ordinary deltas that fit and that do not.
func TestFits(t *testing.T) {
	second := all(few2, 3)
	for _, a := range all(few1, 3) {
		_, middle := lengths(a)
		for _, b := range second {
			in, _ := lengths(b)
			if is := Fits(a, b); is != (in == middle) {
				t.Fatalf("Fits%s: %t", show(a, b), is)
			}
		}
	}
}

// everyOf checks that All returns this.
func everyOf(t *testing.T, n int, l [][]api.Piece, want []api.Piece, e api.Errno) {
	t.Helper()
	if d, is := All(n, l...); !slices.Equal(d, want) || is != e {
		t.Fatalf("All(%d, %s): %s, %d; want %s, %d", n, show(l...), show(d), is, show(want), e)
	}
}

// triples calls f with all very short deltas that follow one another, and with some long ones.
func triples(f func(a, b, c []api.Piece)) {
	third := byInput(all(few3, 2))
	second := byInput(all(few2, 3))
	for _, a := range all(few1, 2) {
		_, middle := lengths(a)
		for _, b := range second[middle] {
			_, out := lengths(b)
			for _, c := range third[out] {
				f(a, b, c)
			}
		}
	}
	r := rand.New(rand.NewSource(8))
	for range 100 {
		a := random(r, few1, r.Intn(100))
		_, middle := lengths(a)
		b := random(r, few2, middle)
		_, out := lengths(b)
		f(a, b, random(r, few3, out))
	}
}

// P5.2: any number of ordinary deltas.
func TestAll(t *testing.T) {
	for _, a := range all(few1, 4) {
		n, _ := lengths(a)
		everyOf(t, n, [][]api.Piece{a}, definition(n, a), api.OK)
	}
	triples(func(a, b, c []api.Piece) {
		n, _ := lengths(a)
		everyOf(t, n, [][]api.Piece{a, b, c}, definition(n, a, b, c), api.OK)
	})
	r := rand.New(rand.NewSource(9))
	l, n := [][]api.Piece{}, 50
	for range 100 {
		l = append(l, random(r, append(list(remove(1)), few1...), n)) // with one more remove, lengths do not tend to grow
		_, n = lengths(l[len(l)-1])
		everyOf(t, 50, l, definition(50, l...), api.OK)
	}
}

// P5.2: the chapter's examples, and no delta at all.
func TestAllExamples(t *testing.T) {
	everyOf(t, 1, [][]api.Piece{list(insert("a"), retain(1)), list(retain(1), remove(1))}, list(insert("a"), remove(1)), api.OK)
	everyOf(t, 2, nil, list(retain(2)), api.OK)
	everyOf(t, 2, [][]api.Piece{}, list(retain(2)), api.OK)
	everyOf(t, 0, nil, nil, api.OK)
	everyOf(t, 0, [][]api.Piece{nil, {}, nil}, nil, api.OK)
	everyOf(t, 1, nil, list(retain(1)), api.OK)
	everyOf(t, api.MaxDelta, nil, list(retain(api.MaxDelta)), api.OK)
	everyOf(t, api.MaxDelta, [][]api.Piece{list(remove(api.MaxDelta)), nil}, list(remove(api.MaxDelta)), api.OK)
	everyOf(t, 3, [][]api.Piece{list(remove(1), remove(2)), list(insert("a"), insert("b"))}, list(insert("ab"), remove(3)), api.OK)
	everyOf(t, 3, [][]api.Piece{list(remove(1), insert("a"), retain(2))}, list(insert("a"), remove(1), retain(2)), api.OK)
}

// P5.2: numbers that Identity refuses, before anything in the deltas.
func TestAllNumbers(t *testing.T) {
	bad := list(retain(0))
	for n, e := range map[int]api.Errno{
		-1: api.ErrArg, -2: api.ErrArg, -api.MaxDelta: api.ErrArg, math.MinInt: api.ErrArg, math.MinInt + 1: api.ErrArg,
		api.MaxDelta + 1: api.ErrLong, 2 * api.MaxDelta: api.ErrLong, math.MaxInt: api.ErrLong, math.MaxInt - 1: api.ErrLong,
	} {
		for _, l := range [][][]api.Piece{nil, {nil}, {list(retain(1))}, {bad}, {list(retain(1)), bad}, {tooLong[0]}, {list(remove(n))}} {
			everyOf(t, n, l, nil, e)
		}
	}
}

// P5.2: the error of the first composition that has one, whatever comes behind it.
func TestAllErrors(t *testing.T) {
	bad, long, one, two := list(retain(0)), list(retain(api.MaxDelta+1)), list(retain(1)), list(retain(2))
	half := api.MaxPieces / 2
	zigzag, more, less := times(half, retain(1), remove(1)), list(insert("P"), retain(half)), list(remove(half+1))
	for _, x := range []struct {
		n    int
		l    [][]api.Piece
		want []api.Piece
		e    api.Errno
	}{
		{1, [][]api.Piece{bad}, nil, api.ErrArg},
		{1, [][]api.Piece{long}, nil, api.ErrLong},
		{1, [][]api.Piece{bad, long}, nil, api.ErrArg},
		{1, [][]api.Piece{long, bad}, nil, api.ErrLong},
		{1, [][]api.Piece{two}, nil, api.ErrBase},
		{2, [][]api.Piece{one}, nil, api.ErrBase},
		{0, [][]api.Piece{one}, nil, api.ErrBase},
		{1, [][]api.Piece{nil}, nil, api.ErrBase},
		{1, [][]api.Piece{two, bad}, nil, api.ErrBase},
		{1, [][]api.Piece{two, long}, nil, api.ErrBase},
		{1, [][]api.Piece{one, two, bad}, nil, api.ErrBase},
		{1, [][]api.Piece{one, one, bad, two}, nil, api.ErrArg},
		{1, [][]api.Piece{one, one, long, bad}, nil, api.ErrLong},
		{1, [][]api.Piece{one, bad, one}, nil, api.ErrArg},
		{1, [][]api.Piece{two, one}, nil, api.ErrBase},
		{1, [][]api.Piece{list(insert("A"), retain(1)), one}, nil, api.ErrBase},
		{1, [][]api.Piece{list(insert("A"), retain(1)), two, one}, nil, api.ErrBase},
		{1, [][]api.Piece{list(insert("A"), retain(1)), list(retain(3))}, nil, api.ErrBase},
		{1, [][]api.Piece{list(remove(1)), one}, nil, api.ErrBase},
		{2 * half, [][]api.Piece{zigzag}, zigzag, api.OK},
		{2 * half, [][]api.Piece{zigzag, more}, nil, api.ErrLong},
		{2 * half, [][]api.Piece{zigzag, more, less}, nil, api.ErrLong}, // More and less, composed first, are not too long.
		{2 * half, [][]api.Piece{zigzag, more, bad}, nil, api.ErrLong},
		{2 * half, [][]api.Piece{zigzag, bad, more}, nil, api.ErrArg},
		{2 * half, [][]api.Piece{zigzag, more, one}, nil, api.ErrLong},
		{2 * half, [][]api.Piece{zigzag, one, more}, nil, api.ErrBase},
		{2*half + 1, [][]api.Piece{zigzag, more, less}, nil, api.ErrBase},
	} {
		everyOf(t, x.n, x.l, x.want, x.e)
	}
	withWrong(func(d []api.Piece) {
		everyOf(t, 1, [][]api.Piece{d}, nil, api.ErrArg)
		everyOf(t, 1, [][]api.Piece{one, d}, nil, api.ErrArg)
		everyOf(t, 1, [][]api.Piece{one, list(insert("A"), retain(1)), d, one}, nil, api.ErrArg)
	})
	for _, d := range tooLong {
		everyOf(t, 1, [][]api.Piece{d}, nil, api.ErrLong)
		everyOf(t, 1, [][]api.Piece{one, d, bad}, nil, api.ErrLong)
	}
}

// standing is a text that a delta inserts, with the offset of the string at which it does.
type standing struct {
	at   int
	text string
}

// standings returns all texts that a delta inserts.
func standings(d []api.Piece) []standing {
	var l []standing
	at := 0
	for _, p := range d {
		if p.Kind == api.Insert {
			l = append(l, standing{at, p.Text})
		}
		at += p.N
	}
	return l
}

// P5.3: ordinary deltas, in normal form and not. The promise leaves one answer only: inserts is told by what it keeps and inserts, and deletes by the composition.
func TestSplit(t *testing.T) {
	check := func(d []api.Piece) {
		n, _ := lengths(d)
		want := normalized(t, d)
		inserts, deletes, e := Split(d...)
		if e != api.OK || !delta.Normal(inserts...) || !delta.Normal(deletes...) {
			t.Fatalf("Split%s: %s, %d; want normal forms", show(d), show(inserts, deletes), e)
		}
		if kept, _, removed := counts(inserts); kept != n || removed != 0 || !slices.Equal(standings(inserts), standings(want)) {
			t.Fatalf("Split%s: %s; want the texts that %s inserts", show(d), show(inserts), show(want))
		}
		if _, inserted, _ := counts(deletes); inserted != 0 {
			t.Fatalf("Split%s: %s inserts", show(d), show(deletes))
		}
		follows(t, inserts, deletes, want)
		same(t, "composition by its definition", definition(n, inserts, deletes), want)
	}
	for _, d := range all(few1, 5) {
		check(d)
	}
	r := rand.New(rand.NewSource(10))
	for range 50 {
		check(random(r, few1, 200))
	}
}

// splits checks that Split returns this.
func splits(t *testing.T, d, inserts, deletes []api.Piece, e api.Errno) {
	t.Helper()
	if i, r, is := Split(d...); !slices.Equal(i, inserts) || !slices.Equal(r, deletes) || is != e {
		t.Fatalf("Split%s: %s, %d; want %s, %d", show(d), show(i, r), is, show(inserts, deletes), e)
	}
}

// P5.3: the chapter's example, the empty delta, deltas that do one thing only, and others that are not in normal form.
func TestSplitExamples(t *testing.T) {
	for _, x := range []struct{ d, inserts, deletes []api.Piece }{
		{list(retain(1), insert("x"), remove(2)), list(retain(1), insert("x"), retain(2)), list(retain(2), remove(2))},
		{nil, nil, nil},
		{list(), nil, nil},
		{list(retain(2)), list(retain(2)), list(retain(2))},
		{list(retain(1), retain(2)), list(retain(3)), list(retain(3))},
		{list(insert("ab")), list(insert("ab")), list(retain(2))},
		{list(insert("a"), insert("b")), list(insert("ab")), list(retain(2))},
		{list(remove(2)), list(retain(2)), list(remove(2))},
		{list(remove(2), remove(1)), list(retain(3)), list(remove(3))},
		{list(remove(2), insert("a")), list(insert("a"), retain(2)), list(retain(1), remove(2))},
		{list(remove(1), insert("a"), remove(1), insert("b"), retain(1)), list(insert("ab"), retain(3)), list(retain(2), remove(2), retain(1))},
		{list(remove(1), retain(1), insert("a")), list(retain(2), insert("a")), list(remove(1), retain(2))},
		{list(insert("a"), retain(1), insert("b"), remove(1), retain(1), remove(1)), list(insert("a"), retain(1), insert("b"), retain(3)), list(retain(3), remove(1), retain(1), remove(1))},
	} {
		splits(t, x.d, x.inserts, x.deletes, api.OK)
	}
}

// P5.3: deltas that Check refuses.
func TestSplitNotValid(t *testing.T) {
	const half = api.MaxDelta / 2
	before := list(insert(strings.Repeat("A", half)), remove(half+1)) // too long for Split, but valid
	withWrong(func(d []api.Piece) {
		splits(t, d, nil, nil, api.ErrArg)
		splits(t, chain(before, d), nil, nil, api.ErrArg)
	})
	splits(t, before, nil, nil, api.ErrLong)
	for _, d := range tooLong {
		splits(t, d, nil, nil, api.ErrLong)
		splits(t, chain(d[:min(len(d), 8)], d), nil, nil, api.ErrLong)
	}
}

// P5.3: an input length and texts of MaxDelta bytes together, and of one more; and as many pieces as there can be.
func TestSplitMost(t *testing.T) {
	const most, half = api.MaxDelta, api.MaxDelta / 2
	long := strings.Repeat("ABCD", most/4)
	splits(t, list(insert(long)), list(insert(long)), list(retain(most)), api.OK)
	splits(t, list(remove(most)), list(retain(most)), list(remove(most)), api.OK)
	splits(t, list(retain(most)), list(retain(most)), list(retain(most)), api.OK)
	splits(t, list(remove(half), insert(long[:half])), list(insert(long[:half]), retain(half)), list(retain(half), remove(half)), api.OK)
	splits(t, list(retain(1), insert(long[:most-3]), remove(2)), list(retain(1), insert(long[:most-3]), retain(2)), list(retain(most-2), remove(2)), api.OK)
	splits(t, list(retain(1), insert(long[:most-3]), remove(1), insert("Q"), remove(1)), nil, nil, api.ErrLong)
	splits(t, list(insert("x"), remove(most)), nil, nil, api.ErrLong)
	splits(t, list(remove(most), insert("x")), nil, nil, api.ErrLong)
	splits(t, list(insert(long), remove(1)), nil, nil, api.ErrLong)
	splits(t, list(insert(long), remove(most)), nil, nil, api.ErrLong)
	splits(t, list(remove(half), insert(long[:half+1])), nil, nil, api.ErrLong)
	splits(t, list(insert(long[:half]), remove(half), remove(1)), nil, nil, api.ErrLong)
	splits(t, list(retain(1), remove(most-1), insert("x")), nil, nil, api.ErrLong)

	const third = api.MaxPieces / 3
	full := chain(times(third, retain(1), insert("A"), remove(1)), list(retain(1)))
	splits(t, full, chain(list(retain(1), insert("A")), times(third-1, retain(2), insert("A")), list(retain(2))), chain(times(third, retain(2), remove(1)), list(retain(1))), api.OK)
	splits(t, times(api.MaxPieces/2, retain(1), remove(1)), list(retain(api.MaxPieces)), times(api.MaxPieces/2, retain(1), remove(1)), api.OK)
	splits(t, times(api.MaxPieces/2, retain(1), insert("A")), times(api.MaxPieces/2, retain(1), insert("A")), list(retain(api.MaxPieces)), api.OK)
	splits(t, times(api.MaxPieces/2, remove(1), insert("A")), list(insert(strings.Repeat("A", api.MaxPieces/2)), retain(api.MaxPieces/2)), list(retain(api.MaxPieces/2), remove(api.MaxPieces/2)), api.OK)
}

// P5.4.
func TestAssociativity(t *testing.T) {
	triples(func(a, b, c []api.Piece) {
		same(t, "associativity of "+show(a, b, c), composed(t, composed(t, a, b), c), composed(t, a, composed(t, b, c)))
	})
}

// P5.4: Identity is neutral, and equivalent deltas have the same compositions.
func TestNeutral(t *testing.T) {
	for _, a := range all(few1, 5) {
		in, out := lengths(a)
		want := normalized(t, a)
		same(t, "Identity and "+show(a), composed(t, identity(t, in), a), want)
		same(t, show(a)+" and Identity", composed(t, a, identity(t, out)), want)
	}
	pairs(func(a, b []api.Piece) {
		x, y := normalized(t, a), normalized(t, b)
		want := composed(t, a, b)
		same(t, "Compose"+show(x, b), composed(t, x, b), want)
		same(t, "Compose"+show(a, y), composed(t, a, y), want)
		same(t, "Compose"+show(x, y), composed(t, x, y), want)
	})
}

// inverted returns the inverse of d for s, and the result.
func inverted(t *testing.T, s string, d []api.Piece) (inverse []api.Piece, result string) {
	t.Helper()
	inverse, e := apply.Invert(s, d...)
	if e != api.OK {
		t.Fatalf("Invert%s: %d", show(d), e)
	}
	result, e = apply.Apply(s, d...)
	if e != api.OK {
		t.Fatalf("Apply%s: %d", show(d), e)
	}
	return inverse, result
}

// base returns a string of n bytes.
func base(n int) string {
	s := make([]byte, n)
	for i := range s {
		s[i] = byte('a' + i%26)
	}
	return string(s)
}

// P5.5.
func TestInverse(t *testing.T) {
	pairs(func(a, b []api.Piece) {
		n, _ := lengths(a)
		s := base(n)
		back1, middle := inverted(t, s, a)
		back2, _ := inverted(t, middle, b)
		want, _ := inverted(t, s, composed(t, a, b))
		same(t, "inverse of Compose"+show(a, b), composed(t, back2, back1), want)
	})
	for _, a := range all(few1, 5) {
		n, _ := lengths(a)
		s := base(n)
		inverse, _ := inverted(t, s, a)
		both := composed(t, a, inverse)
		if result, e := apply.Apply(s, both...); result != s || e != api.OK {
			t.Fatalf("%s and its inverse make %q of %q, %d", show(a), result, s, e)
		}
		_, _, removed := counts(a)
		if slices.Equal(both, identity(t, n)) != (removed == 0) {
			t.Fatalf("%s and its inverse: %s", show(a), show(both))
		}
	}
}

// P5.6.
func TestCounts(t *testing.T) {
	pairs(func(a, b []api.Piece) {
		d := composed(t, a, b)
		k1, i1, r1 := counts(a)
		k2, i2, r2 := counts(b)
		if k, i, r := counts(d); k > k1 || k > k2 || i > i1+i2 || r > r1+r2 {
			t.Fatalf("Compose%s: %s keeps, inserts and removes %d, %d, %d", show(a, b), show(d), k, i, r)
		}
	})
}

// P5.7.
func TestAllOfParts(t *testing.T) {
	check := func(n int, l [][]api.Piece) {
		want, e := All(n, l...)
		if e != api.OK {
			t.Fatalf("All(%d, %s): %d", n, show(l...), e)
		}
		middle := n
		for i := range len(l) + 1 {
			first, e1 := All(n, l[:i]...)
			rest, e2 := All(middle, l[i:]...)
			if e1 != api.OK || e2 != api.OK {
				t.Fatalf("All of parts of %s: %d, %d", show(l...), e1, e2)
			}
			same(t, "All of parts of "+show(l...), composed(t, first, rest), want)
			if i < len(l) {
				_, middle = lengths(l[i])
			}
		}
	}
	triples(func(a, b, c []api.Piece) {
		n, _ := lengths(a)
		check(n, [][]api.Piece{a, b, c})
	})
	r := rand.New(rand.NewSource(11))
	l, n := [][]api.Piece{}, 40
	for range 30 {
		l = append(l, random(r, few2, n))
		_, n = lengths(l[len(l)-1])
	}
	check(40, l)
}

// R3: arguments stay as they are, beyond their length too, and results are new memory.
func TestMemory(t *testing.T) {
	beyond := api.Piece{Kind: 77, N: -7, Text: "beyond"}
	first := list(retain(1), insert("ab"), remove(1), retain(2), beyond)
	second := list(retain(2), insert("c"), remove(2), retain(1), beyond)
	deltas := [][]api.Piece{first[:4], second[:4], list(beyond)}
	before1, before2 := slices.Clone(first), slices.Clone(second)
	a, b, keep := deltas[0], deltas[1], list(retain(4))
	ab := list(retain(1), insert("ac"), remove(2), retain(1))
	inserts, deletes := list(retain(1), insert("ab"), retain(3)), list(retain(3), remove(1), retain(2))
	for range 2 {
		// Each result is kept until all are made, and then spoiled, before all are made again.
		results := [][]api.Piece{composed(t, a, b), composed(t, keep, a), composed(t, a, list(retain(5))), composed(t, keep, keep)}
		wanted := [][]api.Piece{ab, before1[:4], before1[:4], list(retain(4))}
		for n, want := range [][]api.Piece{list(retain(4)), before1[:4], ab} {
			d, e := All(4, deltas[:n]...)
			if e != api.OK {
				t.Fatalf("All(4, %s): %d", show(deltas[:n]...), e)
			}
			results, wanted = append(results, d), append(wanted, want)
		}
		for _, x := range [][3][]api.Piece{{a, inserts, deletes}, {inserts, inserts, list(retain(6))}, {keep, list(retain(4)), list(retain(4))}} {
			i, d, e := Split(x[0]...)
			if e != api.OK {
				t.Fatalf("Split%s: %d", show(x[0]), e)
			}
			results, wanted = append(results, i, d), append(wanted, x[1], x[2])
		}
		for i, d := range results {
			same(t, fmt.Sprint("result ", i), d, wanted[i])
			for j := range d[:cap(d)] {
				d[:cap(d)][j] = beyond
			}
		}
		if !Fits(a, b) || Fits(a, a) {
			t.Errorf("Fits: %t, %t", Fits(a, b), Fits(a, a))
		}
	}
	same(t, "the first argument", first, before1)
	same(t, "the second argument", second, before2)
	same(t, "the list of arguments", deltas[2], list(beyond))
}
