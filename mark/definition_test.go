package mark_test

import (
	"fmt"
	"math"
	"math/rand"
	"slices"
	"strings"
	"testing"

	"quarto/api"
	"quarto/mark"
)

// This file has what the tests share: marks and deltas of all sorts, and the definitions of the chapter, by plain searches through all marks and byte by byte.

func retain(n int) api.Piece          { return api.Piece{Kind: api.Retain, N: n} }
func remove(n int) api.Piece          { return api.Piece{Kind: api.Delete, N: n} }
func insert(s string) api.Piece       { return api.Piece{Kind: api.Insert, Text: s} }
func list(d ...api.Piece) []api.Piece { return d }

// times returns n times the same pieces.
func times(n int, d ...api.Piece) []api.Piece { return slices.Repeat(d, n) }

func left(id uint32, at int) api.Mark            { return api.Mark{ID: id, At: at, Gravity: api.Left} }
func right(id uint32, at int) api.Mark           { return api.Mark{ID: id, At: at, Gravity: api.Right} }
func marks(l ...api.Mark) []api.Mark             { return l }
func add(l []api.Mark, m ...api.Mark) []api.Mark { return slices.Concat(l, m) }

const (
	most     = api.MaxMarks
	full     = api.MaxDelta
	greatest = math.MaxUint32 // the greatest ID
)

// example is the set of marks of the chapter's examples.
var example = marks(left(1, 3), right(5, 3), left(9, 0))

// few are two pieces of each kind.
var few = list(retain(1), retain(2), remove(1), remove(2), insert("A"), insert("B\n\xff"))

// wrong are pieces that are not valid.
var wrong = list(
	retain(0), retain(-1), retain(math.MinInt), api.Piece{Kind: api.Retain, N: 1, Text: "A"},
	remove(0), remove(-1), remove(math.MinInt), api.Piece{Kind: api.Delete, N: 1, Text: "A"},
	insert(""), api.Piece{Kind: api.Insert, N: 1, Text: "A"}, api.Piece{Kind: api.Insert, N: 1},
	api.Piece{}, api.Piece{N: 1}, api.Piece{Text: "A"}, api.Piece{Kind: 4, N: 1}, api.Piece{Kind: 255, N: api.MaxDelta + 1},
)

// tooLong are deltas of valid pieces that are too long, by their lengths or by the number of their pieces.
var tooLong = [][]api.Piece{
	list(retain(full + 1)), list(remove(full + 1)), list(retain(math.MaxInt)), list(remove(math.MaxInt), remove(math.MaxInt), remove(3)),
	list(retain(full), insert("A")), list(remove(1), retain(full)), list(insert(strings.Repeat("A", full+1))),
	times(api.MaxPieces+1, retain(1)), times(api.MaxPieces+1, remove(1)), times(api.MaxPieces+1, insert("A")),
}

// badMarks are marks none of which is a set of marks, for a string of any length.
var badMarks = marks(
	left(0, 0), right(0, 3), left(0, -1), api.Mark{Gravity: 2}, api.Mark{ID: 1, Gravity: 2}, api.Mark{ID: greatest, At: 1, Gravity: 255},
	left(1, -1), right(greatest, -1), left(2, math.MinInt), right(2, math.MinInt+1),
)

// badSets are lists that are no sets of marks, for a string of any length.
func badSets() [][]api.Mark {
	l := [][]api.Mark{
		marks(left(1, 0), left(1, 0)), marks(left(2, 0), left(1, 0)), marks(right(greatest, 0), left(greatest, 1)), marks(right(greatest, 0), left(1, 0)),
		marks(left(1, 0), left(3, 0), left(2, 0)), marks(left(1, 0), left(2, 0), left(2, 0), left(3, 0)), marks(left(1, 0), left(2, 0), left(1, 0)),
		numbered(most + 1), numbered(most + 2), numbered(1000), make([]api.Mark, most+1),
	}
	for _, m := range badMarks {
		l = append(l, marks(m), marks(m, left(7, 1)), marks(left(1, 0), m), add(example, m))
	}
	return l
}

// numbered returns n marks with the IDs 2, 4, 6 and so on, of both gravities, at positions from 0 to 9.
func numbered(n int) []api.Mark {
	l := make([]api.Mark, n)
	for i := range l {
		l[i] = api.Mark{ID: uint32(2*i + 2), At: i * 7 % 10, Gravity: uint8(i % 2)}
	}
	return l
}

// sets returns sets of marks for a string of n bytes: none, one, some, marks at the same position, and exactly MaxMarks.
func sets(n int) [][]api.Mark {
	l := [][]api.Mark{nil, {}, marks(left(1, 0)), marks(right(greatest, n)), marks(left(1, n), right(2, n), right(3, 0), left(greatest, 0))}
	r := rand.New(rand.NewSource(int64(n)))
	for _, count := range []int{1, 2, 3, 5, 17, most - 1, most} {
		l = append(l, random(r, n, count))
	}
	return l
}

// random returns a set of some marks for a string of n bytes.
func random(r *rand.Rand, n, count int) []api.Mark {
	l, id := marks(), uint32(0)
	for range count {
		id += 1 + uint32(r.Intn(3))
		l = append(l, api.Mark{ID: id, At: r.Intn(n + 1), Gravity: uint8(r.Intn(2))})
	}
	return l
}

// every returns one mark of each gravity for each position from 0 to n, which may be more marks than a set has.
func every(n int) []api.Mark {
	l := marks()
	for at := range n + 1 {
		l = append(l, left(uint32(len(l)+1), at), right(uint32(len(l)+2), at))
	}
	return l
}

// all returns each sequence of at most n of the few pieces.
func all(n int) [][]api.Piece {
	l := [][]api.Piece{nil}
	for from := 0; n > 0; n-- {
		longest := l[from:]
		from = len(l)
		for _, d := range longest {
			for _, p := range few {
				l = append(l, append(slices.Clip(d), p))
			}
		}
	}
	return l
}

// randomDelta returns a long delta of the few pieces that fits a string of n bytes.
func randomDelta(r *rand.Rand, n int) []api.Piece {
	d := list()
	for n > 0 || r.Intn(3) > 0 {
		if p := few[r.Intn(len(few))]; p.N <= n {
			d, n = append(d, p), n-p.N
		}
	}
	return d
}

// deltas calls f with all short deltas of the few pieces, and with some longer ones.
func deltas(f func(d []api.Piece)) {
	for _, d := range all(4) {
		f(d)
	}
	r := rand.New(rand.NewSource(1))
	for range 50 {
		f(randomDelta(r, r.Intn(most/2)))
	}
}

// lengths returns the input length and the output length of a delta.
func lengths(d []api.Piece) (in, out int) {
	for _, p := range d {
		in += p.N
		out += len(p.Text)
		if p.Kind == api.Retain {
			out += p.N
		}
	}
	return in, out
}

// places returns for each byte of the string its place in the result, or -1 if it is not kept, and the output length.
func places(d []api.Piece) (l []int, out int) {
	for _, p := range d {
		for range p.N {
			if p.Kind == api.Delete {
				l = append(l, -1)
				continue
			}
			l, out = append(l, out), out+1
		}
		out += len(p.Text)
	}
	return l, out
}

// moved is the definition of S3: where a mark is in a result of out bytes.
func moved(places []int, out int, m api.Mark) api.Mark {
	at := m.At
	if m.Gravity == api.Left {
		m.At = 0
		for _, place := range places[:at] {
			if place >= 0 {
				m.At = place + 1
			}
		}
		return m
	}
	m.At = out
	for _, place := range slices.Backward(places[at:]) {
		if place >= 0 {
			m.At = place
		}
	}
	return m
}

// checked is the definition of Check, which asks all marks before each mark for its ID.
func checked(n int, l []api.Mark) api.Errno {
	if n < 0 {
		return api.ErrArg
	}
	if len(l) > 64 {
		return api.ErrMarks
	}
	for i, m := range l {
		known := m.Gravity == 0 || m.Gravity == 1
		for _, before := range l[:i] {
			known = known && before.ID < m.ID
		}
		if !known || m.ID == 0 {
			return api.ErrArg
		}
		if m.At != min(max(m.At, 0), n) {
			return api.ErrRange
		}
	}
	return api.OK
}

// without returns the marks that do not have an ID.
func without(l []api.Mark, id uint32) []api.Mark {
	rest := marks()
	for _, m := range l {
		if m.ID != id {
			rest = append(rest, m)
		}
	}
	return rest
}

// with returns the marks that do not have the ID of m, and m behind those with lower IDs.
func with(l []api.Mark, m api.Mark) []api.Mark {
	lower, higher := marks(), marks()
	for _, x := range without(l, m.ID) {
		if x.ID < m.ID {
			lower = append(lower, x)
		} else {
			higher = append(higher, x)
		}
	}
	return slices.Concat(lower, marks(m), higher)
}

// first returns the first mark with an ID.
func first(l []api.Mark, id uint32) (api.Mark, bool) {
	for _, m := range l {
		if m.ID == id {
			return m, true
		}
	}
	return api.Mark{}, false
}

// between is the definition of Between: each mark has as many before it as come before it by position, ID and place in l.
func between(l []api.Mark, from, to int) []api.Mark {
	in := marks()
	for _, m := range l {
		if m.At >= from && m.At <= to {
			in = append(in, m)
		}
	}
	sorted := make([]api.Mark, len(in))
	for i, m := range in {
		before := 0
		for j, x := range in {
			switch {
			case x.At != m.At && x.At < m.At, x.At == m.At && x.ID < m.ID, x.At == m.At && x.ID == m.ID && j < i:
				before++
			}
		}
		sorted[before] = m
	}
	return sorted
}

// show prints the beginning of some marks.
func show(l []api.Mark) string {
	return fmt.Sprintf("(%d: %.150s)", len(l), fmt.Sprint(l[:min(len(l), 8)]))
}

// showDelta prints the beginning of a delta.
func showDelta(d []api.Piece) string {
	return fmt.Sprintf("(%d: %.150q)", len(d), fmt.Sprint(d[:min(len(d), 8)]))
}

// isCheck checks that Check returns this.
func isCheck(t *testing.T, n int, l []api.Mark, e api.Errno) {
	t.Helper()
	if is := mark.Check(n, l...); is != e {
		t.Fatalf("Check(%d, %s): %d; want %d", n, show(l), is, e)
	}
}

// isSet checks that Set returns this.
func isSet(t *testing.T, l []api.Mark, m api.Mark, want []api.Mark, e api.Errno) {
	t.Helper()
	if s, is := mark.Set(l, m); !slices.Equal(s, want) || is != e {
		t.Fatalf("Set(%s, %v): %s, %d; want %s, %d", show(l), m, show(s), is, show(want), e)
	}
}

// isDrop checks that Drop returns this.
func isDrop(t *testing.T, l []api.Mark, id uint32, want []api.Mark, e api.Errno) {
	t.Helper()
	if s, is := mark.Drop(l, id); !slices.Equal(s, want) || is != e {
		t.Fatalf("Drop(%s, %d): %s, %d; want %s, %d", show(l), id, show(s), is, show(want), e)
	}
}

// isFind checks that Find returns this.
func isFind(t *testing.T, l []api.Mark, id uint32, want api.Mark, has bool) {
	t.Helper()
	if m, is := mark.Find(l, id); m != want || is != has {
		t.Fatalf("Find(%s, %d): %v, %t; want %v, %t", show(l), id, m, is, want, has)
	}
}

// isShift checks that Shift returns this.
func isShift(t *testing.T, l []api.Mark, d []api.Piece, want []api.Mark, e api.Errno) {
	t.Helper()
	if s, is := mark.Shift(l, d); !slices.Equal(s, want) || is != e {
		t.Fatalf("Shift(%s, %s): %s, %d; want %s, %d", show(l), showDelta(d), show(s), is, show(want), e)
	}
}

// isBetween checks that Between returns this.
func isBetween(t *testing.T, l []api.Mark, from, to int, want []api.Mark) {
	t.Helper()
	if s := mark.Between(l, from, to); !slices.Equal(s, want) {
		t.Fatalf("Between(%s, %d, %d): %s; want %s", show(l), from, to, show(s), show(want))
	}
}

// set returns what Set returns.
func set(t *testing.T, l []api.Mark, m api.Mark) []api.Mark {
	t.Helper()
	s, e := mark.Set(l, m)
	if e != api.OK {
		t.Fatalf("Set(%s, %v): %d", show(l), m, e)
	}
	return s
}

// dropped returns what Drop returns.
func dropped(t *testing.T, l []api.Mark, id uint32) []api.Mark {
	t.Helper()
	s, e := mark.Drop(l, id)
	if e != api.OK {
		t.Fatalf("Drop(%s, %d): %d", show(l), id, e)
	}
	return s
}

// shifted returns what Shift returns.
func shifted(t *testing.T, l []api.Mark, d []api.Piece) []api.Mark {
	t.Helper()
	s, e := mark.Shift(l, d)
	if len(s) != len(l) || e != api.OK {
		t.Fatalf("Shift(%s, %s): %s, %d", show(l), showDelta(d), show(s), e)
	}
	return s
}

// shiftedAll returns what Shift makes of a list that may have more than MaxMarks marks.
func shiftedAll(t *testing.T, l []api.Mark, d []api.Piece) []api.Mark {
	t.Helper()
	var s []api.Mark
	for part := range slices.Chunk(l, most) {
		s = append(s, shifted(t, part, d)...)
	}
	return s
}
