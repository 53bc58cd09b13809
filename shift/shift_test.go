package shift

import (
	"fmt"
	"math"
	"math/rand"
	"slices"
	"strings"
	"testing"

	"quarto/api"
	"quarto/apply"
	"quarto/compose"
)

func retain(n int) api.Piece          { return api.Piece{Kind: api.Retain, N: n} }
func remove(n int) api.Piece          { return api.Piece{Kind: api.Delete, N: n} }
func insert(s string) api.Piece       { return api.Piece{Kind: api.Insert, Text: s} }
func list(d ...api.Piece) []api.Piece { return d }

// times returns n times the same pieces.
func times(n int, d ...api.Piece) []api.Piece { return slices.Repeat(d, n) }

// few are two pieces of each kind.
var few = list(retain(1), retain(2), remove(1), remove(2), insert("A"), insert("B\n\xff"))

// example is the delta of the chapter's examples.
var example = list(retain(2), insert("xyz"), remove(2), retain(1))

// gravities are both gravities.
var gravities = []uint8{api.Left, api.Right}

// wrong are pieces that are not valid.
var wrong = list(
	retain(0), retain(-1), retain(math.MinInt), api.Piece{Kind: api.Retain, N: 1, Text: "A"},
	remove(0), remove(-1), remove(math.MinInt), api.Piece{Kind: api.Delete, N: 1, Text: "A"},
	insert(""), api.Piece{Kind: api.Insert, N: 1, Text: "A"}, api.Piece{Kind: api.Insert, N: 1},
	api.Piece{}, api.Piece{N: 1}, api.Piece{Text: "A"}, api.Piece{Kind: 4, N: 1}, api.Piece{Kind: 255, N: api.MaxDelta + 1},
)

// tooLong are deltas of valid pieces that are too long, by their lengths or by the number of their pieces.
var tooLong = [][]api.Piece{
	list(retain(api.MaxDelta + 1)), list(remove(api.MaxDelta + 1)), list(retain(math.MaxInt)), list(remove(math.MaxInt), remove(math.MaxInt), remove(3)),
	list(retain(api.MaxDelta), insert("A")), list(remove(1), retain(api.MaxDelta)), list(insert(strings.Repeat("A", api.MaxDelta+1))),
	times(api.MaxPieces+1, retain(1)), times(api.MaxPieces+1, remove(1)), times(api.MaxPieces+1, insert("A")),
}

// show prints the beginning of a delta.
func show(d []api.Piece) string {
	return fmt.Sprintf("(%d: %.200q)", len(d), fmt.Sprint(d[:min(len(d), 8)]))
}

// all returns each sequence of at most n of the few pieces.
func all(n int) [][]api.Piece {
	l := [][]api.Piece{nil}
	for from := 0; n > 0; n-- {
		longest := l[from:]
		from = len(l)
		for _, d := range longest {
			for _, p := range few {
				l = append(l, append(slices.Clip(d), p))
			}
		}
	}
	return l
}

// random returns a long delta of the few pieces that fits a string of n bytes.
func random(r *rand.Rand, n int) []api.Piece {
	d := list()
	for n > 0 || r.Intn(3) > 0 {
		if p := few[r.Intn(len(few))]; p.N <= n {
			d, n = append(d, p), n-p.N
		}
	}
	return d
}

// deltas calls f with all short deltas of the few pieces, and with some long ones.
func deltas(f func(d []api.Piece)) {
	for _, d := range all(5) {
		f(d)
	}
	r := rand.New(rand.NewSource(1))
	for range 30 {
		f(random(r, r.Intn(60)))
	}
}

// lengths returns the input length and the output length of a delta.
func lengths(d []api.Piece) (in, out int) {
	for _, p := range d {
		in += p.N
		out += len(p.Text)
		if p.Kind == api.Retain {
			out += p.N
		}
	}
	return in, out
}

// places returns for each byte of the string its place in the result, or -1 if it is not kept; and for each byte of the result its place in the string, or -1 if it was inserted.
func places(d []api.Piece) (ahead, back []int) {
	for _, p := range d {
		for range p.N {
			if p.Kind == api.Delete {
				ahead = append(ahead, -1)
				continue
			}
			ahead, back = append(ahead, len(back)), append(back, len(ahead))
		}
		for range p.Text {
			back = append(back, -1)
		}
	}
	return ahead, back
}

// moved is the definition of where a position moves; other is the length of the string to which it moves.
func moved(places []int, other, at int, gravity uint8) int {
	if gravity == api.Left {
		for i := at - 1; i >= 0; i-- {
			if places[i] >= 0 {
				return places[i] + 1
			}
		}
		return 0
	}
	for i := at; i < len(places); i++ {
		if places[i] >= 0 {
			return places[i]
		}
	}
	return other
}

// hull is the definition of an extent.
func hull(d []api.Piece) [4]int {
	ahead, back := places(d)
	in, out := len(ahead), len(back)
	// Each byte that is kept, with its place, between two that stand for the ends.
	l := [][2]int{{-1, -1}}
	for at, place := range ahead {
		if place >= 0 {
			l = append(l, [2]int{at, place})
		}
	}
	l = append(l, [2]int{in, out})
	first, last := -1, -1
	for i := range len(l) - 1 {
		if l[i+1][0]-l[i][0] > 1 || l[i+1][1]-l[i][1] > 1 {
			if first < 0 {
				first = i
			}
			last = i
		}
	}
	if first < 0 {
		return [4]int{in, in, in, in}
	}
	behind := len(l) - 2 - last
	return [4]int{first, in - behind, first, out - behind}
}

// isPosition checks that Position returns this.
func isPosition(t *testing.T, d []api.Piece, at int, gravity uint8, want int, e api.Errno) {
	t.Helper()
	if to, is := Position(d, at, gravity); to != want || is != e {
		t.Fatalf("Position(%s, %d, %d): %d, %d; want %d, %d", show(d), at, gravity, to, is, want, e)
	}
}

// isBack checks that Back returns this.
func isBack(t *testing.T, d []api.Piece, at int, gravity uint8, want int, e api.Errno) {
	t.Helper()
	if to, is := Back(d, at, gravity); to != want || is != e {
		t.Fatalf("Back(%s, %d, %d): %d, %d; want %d, %d", show(d), at, gravity, to, is, want, e)
	}
}

// isKept checks that Kept returns this: -1 for a byte that is not kept.
func isKept(t *testing.T, d []api.Piece, at int, want int, e api.Errno) {
	t.Helper()
	place, kept, is := Kept(d, at)
	if place != max(want, 0) || kept != (want >= 0) || is != e {
		t.Fatalf("Kept(%s, %d): %d, %t, %d; want %d, %d", show(d), at, place, kept, is, want, e)
	}
}

// isRange checks that Range returns this.
func isRange(t *testing.T, d []api.Piece, from, to int, begin, end int, e api.Errno) {
	t.Helper()
	if x, y, is := Range(d, from, to); x != begin || y != end || is != e {
		t.Fatalf("Range(%s, %d, %d): %d, %d, %d; want %d, %d, %d", show(d), from, to, x, y, is, begin, end, e)
	}
}

// isExtent checks that Extent returns this.
func isExtent(t *testing.T, d []api.Piece, want [4]int, e api.Errno) {
	t.Helper()
	from, to, outFrom, outTo, is := Extent(d...)
	if [4]int{from, to, outFrom, outTo} != want || is != e {
		t.Fatalf("Extent%s: %d, %d, %d, %d, %d; want %d, %d", show(d), from, to, outFrom, outTo, is, want, e)
	}
}

// movedAhead returns where a position moves under a delta.
func movedAhead(t *testing.T, d []api.Piece, at int, gravity uint8) int {
	t.Helper()
	to, e := Position(d, at, gravity)
	if e != api.OK {
		t.Fatalf("Position(%s, %d, %d): %d", show(d), at, gravity, e)
	}
	return to
}

// movedBack returns where a position of the result moves.
func movedBack(t *testing.T, d []api.Piece, at int, gravity uint8) int {
	t.Helper()
	to, e := Back(d, at, gravity)
	if e != api.OK {
		t.Fatalf("Back(%s, %d, %d): %d", show(d), at, gravity, e)
	}
	return to
}

// P6.1 and S3: all positions under ordinary deltas, in normal form and not.
func TestPosition(t *testing.T) {
	deltas(func(d []api.Piece) {
		ahead, back := places(d)
		for _, g := range gravities {
			for at := range len(ahead) + 1 {
				isPosition(t, d, at, g, moved(ahead, len(back), at, g), api.OK)
			}
			for at := range len(back) + 1 {
				isBack(t, d, at, g, moved(back, len(ahead), at, g), api.OK)
			}
		}
	})
}

// P6.1: the chapter's examples, and deltas that do one thing only: by positions from 0 on, where these move with gravity Left, and with Right.
func TestPositionExamples(t *testing.T) {
	for _, x := range []struct {
		d                                []api.Piece
		left, right, backLeft, backRight []int
	}{
		{example, []int{0, 1, 2, 2, 2, 6}, []int{0, 1, 5, 5, 5, 6}, []int{0, 1, 2, 2, 2, 2, 5}, []int{0, 1, 4, 4, 4, 4, 5}},
		{nil, []int{0}, []int{0}, []int{0}, []int{0}},
		{list(), []int{0}, []int{0}, []int{0}, []int{0}},
		{list(retain(2)), []int{0, 1, 2}, []int{0, 1, 2}, []int{0, 1, 2}, []int{0, 1, 2}},
		{list(retain(1), retain(1)), []int{0, 1, 2}, []int{0, 1, 2}, []int{0, 1, 2}, []int{0, 1, 2}},
		{list(insert("ab")), []int{0}, []int{2}, []int{0, 0, 0}, []int{0, 0, 0}},
		{list(insert("a"), insert("b")), []int{0}, []int{2}, []int{0, 0, 0}, []int{0, 0, 0}},
		{list(remove(2)), []int{0, 0, 0}, []int{0, 0, 0}, []int{0}, []int{2}},
		{list(remove(1), remove(1)), []int{0, 0, 0}, []int{0, 0, 0}, []int{0}, []int{2}},
		{list(insert("a"), retain(1)), []int{0, 2}, []int{1, 2}, []int{0, 0, 1}, []int{0, 0, 1}},
		{list(retain(1), insert("a")), []int{0, 1}, []int{0, 2}, []int{0, 1, 1}, []int{0, 1, 1}},
		{list(retain(1), insert("a"), retain(1)), []int{0, 1, 3}, []int{0, 2, 3}, []int{0, 1, 1, 2}, []int{0, 1, 1, 2}},
		{list(remove(1), retain(1)), []int{0, 0, 1}, []int{0, 0, 1}, []int{0, 2}, []int{1, 2}},
		{list(retain(1), remove(1)), []int{0, 1, 1}, []int{0, 1, 1}, []int{0, 1}, []int{0, 2}},
		{list(retain(1), remove(2), retain(1)), []int{0, 1, 1, 1, 2}, []int{0, 1, 1, 1, 2}, []int{0, 1, 4}, []int{0, 3, 4}},
		{list(remove(1), insert("a")), []int{0, 0}, []int{1, 1}, []int{0, 0}, []int{1, 1}},
		{list(retain(1), remove(1), insert("ab"), remove(1), insert("c"), retain(1)), []int{0, 1, 1, 1, 5}, []int{0, 4, 4, 4, 5}, []int{0, 1, 1, 1, 1, 4}, []int{0, 3, 3, 3, 3, 4}},
	} {
		for at := range x.left {
			isPosition(t, x.d, at, api.Left, x.left[at], api.OK)
			isPosition(t, x.d, at, api.Right, x.right[at], api.OK)
		}
		for at := range x.backLeft {
			isBack(t, x.d, at, api.Left, x.backLeft[at], api.OK)
			isBack(t, x.d, at, api.Right, x.backRight[at], api.OK)
		}
		for _, g := range gravities {
			isPosition(t, x.d, len(x.left), g, 0, api.ErrRange)
			isBack(t, x.d, len(x.backLeft), g, 0, api.ErrRange)
		}
	}
}

// outside returns offsets that are outside of those from 0 to n.
func outside(n int) []int {
	return []int{-1, -2, -n - 1, math.MinInt, math.MinInt + 1, n + 1, n + 2, 1 << 32, math.MaxInt - 1, math.MaxInt}
}

// P6.1: positions outside, and gravities that are none, which are refused first.
func TestPositionErrors(t *testing.T) {
	for _, d := range append(all(2), example, list(retain(api.MaxDelta)), list(insert("abc"), remove(5))) {
		in, out := lengths(d)
		for _, at := range outside(in) {
			isPosition(t, d, at, api.Left, 0, api.ErrRange)
			isPosition(t, d, at, api.Right, 0, api.ErrRange)
		}
		for _, at := range outside(out) {
			isBack(t, d, at, api.Left, 0, api.ErrRange)
			isBack(t, d, at, api.Right, 0, api.ErrRange)
		}
		for g := 2; g < 256; g++ {
			for _, at := range []int{0, in, out, in + out + 1, -1, math.MinInt, math.MaxInt} {
				isPosition(t, d, at, uint8(g), 0, api.ErrArg)
				isBack(t, d, at, uint8(g), 0, api.ErrArg)
			}
		}
	}
	isPosition(t, list(insert("ab")), 1, api.Left, 0, api.ErrRange) // an offset of the result only
	isBack(t, list(remove(2)), 1, api.Left, 0, api.ErrRange)        // an offset of the string only
}

// P6.2: all bytes under ordinary deltas, in normal form and not.
func TestKept(t *testing.T) {
	deltas(func(d []api.Piece) {
		ahead, _ := places(d)
		for at, place := range ahead {
			isKept(t, d, at, place, api.OK)
		}
		for _, at := range append(outside(len(ahead)), len(ahead)) {
			isKept(t, d, at, -1, api.ErrRange)
		}
	})
}

// P6.2: the chapter's examples, and deltas that do one thing only.
func TestKeptExamples(t *testing.T) {
	for _, x := range []struct {
		d    []api.Piece
		want []int
	}{
		{example, []int{0, 1, -1, -1, 5}},
		{nil, nil},
		{list(retain(2)), []int{0, 1}},
		{list(remove(2)), []int{-1, -1}},
		{list(insert("ab")), nil},
		{list(insert("ab"), retain(1)), []int{2}},
		{list(retain(1), retain(1), insert("a"), insert("b"), retain(2)), []int{0, 1, 4, 5}},
		{list(remove(1), insert("a"), retain(1), remove(1)), []int{-1, 1, -1}},
		{list(insert("a"), remove(1), insert("b"), retain(1)), []int{-1, 2}},
	} {
		for at, want := range x.want {
			isKept(t, x.d, at, want, api.OK)
		}
		isKept(t, x.d, len(x.want), -1, api.ErrRange)
		isKept(t, x.d, -1, -1, api.ErrRange)
	}
}

// P6.3: all ranges under ordinary deltas, in normal form and not.
func TestRange(t *testing.T) {
	deltas(func(d []api.Piece) {
		ahead, back := places(d)
		for to := range len(ahead) + 1 {
			end := moved(ahead, len(back), to, api.Left)
			for from := range to + 1 {
				begin := moved(ahead, len(back), from, api.Right)
				isRange(t, d, from, to, min(begin, end), end, api.OK)
			}
		}
	})
}

// P6.3: the chapter's examples; ranges that are empty, whole, and wholly removed.
func TestRangeExamples(t *testing.T) {
	for _, x := range []struct {
		d                    []api.Piece
		from, to, begin, end int
	}{
		{example, 1, 3, 1, 2}, {example, 2, 4, 2, 2}, {example, 3, 5, 5, 6},
		{example, 0, 5, 0, 6}, {example, 0, 0, 0, 0}, {example, 5, 5, 6, 6}, {example, 2, 2, 2, 2}, {example, 3, 3, 2, 2}, {example, 4, 4, 2, 2}, {example, 1, 1, 1, 1}, {example, 2, 5, 5, 6}, {example, 4, 5, 5, 6}, {example, 0, 2, 0, 2}, {example, 0, 4, 0, 2},
		{nil, 0, 0, 0, 0},
		{list(insert("ab")), 0, 0, 0, 0},
		{list(remove(3)), 0, 3, 0, 0}, {list(remove(3)), 1, 2, 0, 0}, {list(remove(3)), 3, 3, 0, 0},
		{list(retain(3)), 0, 3, 0, 3}, {list(retain(3)), 1, 2, 1, 2}, {list(retain(3)), 2, 2, 2, 2},
		{list(insert("ab"), retain(2), insert("cd")), 0, 2, 2, 4}, // what is inserted at the ends stays outside
		{list(retain(1), insert("ab"), retain(1)), 0, 2, 0, 4}, {list(retain(1), insert("ab"), retain(1)), 1, 1, 1, 1},
		{list(remove(2), insert("ab"), remove(1), insert("c")), 0, 3, 0, 0}, {list(remove(2), insert("ab"), remove(1), insert("c")), 3, 3, 0, 0},
	} {
		isRange(t, x.d, x.from, x.to, x.begin, x.end, api.OK)
	}
}

// P6.3: ranges that are outside, or that end before they begin.
func TestRangeErrors(t *testing.T) {
	for _, d := range append(all(2), example, list(retain(api.MaxDelta)), list(insert("abc"), remove(5))) {
		in, _ := lengths(d)
		for _, x := range outside(in) {
			for _, y := range append(outside(in), 0, in) {
				isRange(t, d, x, y, 0, 0, api.ErrRange)
				isRange(t, d, y, x, 0, 0, api.ErrRange)
			}
		}
		if in > 0 {
			isRange(t, d, in, in-1, 0, 0, api.ErrRange)
			isRange(t, d, 1, 0, 0, 0, api.ErrRange)
			isRange(t, d, in, 0, 0, 0, api.ErrRange)
		}
	}
	isRange(t, example, 5, 6, 0, 0, api.ErrRange) // 6 is the output length
	isRange(t, example, 4, 3, 0, 0, api.ErrRange)
}

// P6.4: ordinary deltas, in normal form and not.
func TestExtent(t *testing.T) {
	deltas(func(d []api.Piece) { isExtent(t, d, hull(d), api.OK) })
}

// P6.4: the chapter's examples; deltas that change nothing, or only at an end, and pieces that are divided.
func TestExtentExamples(t *testing.T) {
	for _, x := range []struct {
		d    []api.Piece
		want [4]int
	}{
		{example, [4]int{2, 4, 2, 5}},
		{list(retain(4)), [4]int{4, 4, 4, 4}},
		{list(retain(1), retain(3)), [4]int{4, 4, 4, 4}},
		{nil, [4]int{}},
		{list(), [4]int{}},
		{list(insert("ab")), [4]int{0, 0, 0, 2}},
		{list(insert("a"), insert("b")), [4]int{0, 0, 0, 2}},
		{list(remove(2)), [4]int{0, 2, 0, 0}},
		{list(remove(1), remove(1)), [4]int{0, 2, 0, 0}},
		{list(insert("ab"), retain(3)), [4]int{0, 0, 0, 2}},
		{list(remove(2), retain(3)), [4]int{0, 2, 0, 0}},
		{list(retain(3), insert("ab")), [4]int{3, 3, 3, 5}},
		{list(retain(3), remove(2)), [4]int{3, 5, 3, 3}},
		{list(retain(1), retain(2), remove(2), retain(1), retain(3)), [4]int{3, 5, 3, 3}},
		{list(remove(1), insert("a"), retain(2)), [4]int{0, 1, 0, 1}},
		{list(retain(1), remove(1), insert("a"), retain(1)), [4]int{1, 2, 1, 2}},
		{list(remove(1), retain(2), insert("a")), [4]int{0, 3, 0, 3}},
		{list(insert("a"), retain(2), remove(1)), [4]int{0, 3, 0, 3}},
		{list(retain(1), insert("ab"), retain(2), remove(1), retain(4)), [4]int{1, 4, 1, 5}},
		{list(retain(1), remove(2), retain(2), remove(1), retain(1), insert("a"), retain(4)), [4]int{1, 7, 1, 5}},
	} {
		isExtent(t, x.d, x.want, api.OK)
	}
}

// isRefused checks that all functions refuse a delta, whatever else they are given.
func isRefused(t *testing.T, d []api.Piece, e api.Errno) {
	t.Helper()
	for _, x := range []int{0, 1, -1, math.MinInt, math.MaxInt} {
		for _, g := range []uint8{api.Left, api.Right, 2, 255} {
			isPosition(t, d, x, g, 0, e)
			isBack(t, d, x, g, 0, e)
		}
		isKept(t, d, x, -1, e)
		for _, y := range []int{0, 1, -1, math.MinInt, math.MaxInt} {
			isRange(t, d, x, y, 0, 0, e)
		}
	}
	isExtent(t, d, [4]int{}, e)
}

// P6.1 to P6.4: deltas that Check refuses, before anything else is.
func TestNotValid(t *testing.T) {
	for _, p := range wrong {
		isRefused(t, list(p), api.ErrArg)
		isRefused(t, list(p, retain(1)), api.ErrArg)
		isRefused(t, list(retain(1), p), api.ErrArg)
		isRefused(t, list(retain(2), insert("A"), p, remove(1)), api.ErrArg)
		isRefused(t, list(p, retain(api.MaxDelta+1)), api.ErrArg)
		isRefused(t, list(retain(api.MaxDelta+1), p), api.ErrLong)
		isRefused(t, times(api.MaxPieces+1, p), api.ErrLong)
	}
	for _, d := range tooLong {
		isRefused(t, d, api.ErrLong)
	}
}

// P6.1 to P6.4: lengths of exactly MaxDelta.
func TestMaxDelta(t *testing.T) {
	const most = api.MaxDelta
	long := strings.Repeat("A", most)
	for _, x := range []struct {
		d      []api.Piece
		extent [4]int
	}{
		{list(retain(most)), [4]int{most, most, most, most}},
		{list(remove(most)), [4]int{0, most, 0, 0}},
		{list(insert(long)), [4]int{0, 0, 0, most}},
		{list(insert(long), remove(most)), [4]int{0, most, 0, most}},
		{list(remove(most), insert(long)), [4]int{0, most, 0, most}},
		{list(retain(most-1), insert("A"), remove(1)), [4]int{most - 1, most, most - 1, most}},
		{list(remove(1), insert("A"), retain(most-1)), [4]int{0, 1, 0, 1}},
		{list(insert(long[:most-2]), retain(1), remove(most-1), insert("A")), [4]int{0, most, 0, most}},
		{list(retain(1), remove(most-2), retain(1)), [4]int{1, most - 1, 1, 1}},
		{list(retain(1), insert(long[2:]), retain(1)), [4]int{1, 1, 1, most - 1}},
	} {
		ahead, back := places(x.d)
		isExtent(t, x.d, x.extent, api.OK)
		sample(t, x.d, ahead, back)
	}
}

// sample checks a few positions, bytes and ranges under a long delta, the outermost ones among them.
func sample(t *testing.T, d []api.Piece, ahead, back []int) {
	t.Helper()
	in, out := len(ahead), len(back)
	for _, g := range gravities {
		for _, at := range spread(in) {
			isPosition(t, d, at, g, moved(ahead, out, at, g), api.OK)
		}
		for _, at := range spread(out) {
			isBack(t, d, at, g, moved(back, in, at, g), api.OK)
		}
		isPosition(t, d, in+1, g, 0, api.ErrRange)
		isBack(t, d, out+1, g, 0, api.ErrRange)
	}
	for _, to := range spread(in) {
		if to < in {
			isKept(t, d, to, ahead[to], api.OK)
		}
		end := moved(ahead, out, to, api.Left)
		isRange(t, d, 0, to, min(moved(ahead, out, 0, api.Right), end), end, api.OK)
		isRange(t, d, to, in, min(moved(ahead, out, to, api.Right), moved(ahead, out, in, api.Left)), moved(ahead, out, in, api.Left), api.OK)
	}
	isKept(t, d, in, -1, api.ErrRange)
	isRange(t, d, 0, in+1, 0, 0, api.ErrRange)
}

// spread returns a few numbers from 0 to n, in order, n among them.
func spread(n int) []int {
	l := []int{0, 1, 2, n / 3, n / 2, n/2 + 1, n - 2, n - 1, n}
	l = slices.DeleteFunc(l, func(x int) bool { return x < 0 || x > n })
	slices.Sort(l)
	return slices.Compact(l)
}

// P6.1 to P6.4: exactly MaxPieces pieces.
func TestMaxPieces(t *testing.T) {
	const most = api.MaxPieces
	for _, d := range [][]api.Piece{
		times(most, retain(2)), times(most, remove(2)), times(most, insert("AB")),
		times(most/2, retain(1), remove(2)), times(most/2, remove(1), insert("AB")), times(most/2, insert("AB"), retain(2)),
		times(most/4, retain(1), remove(2), insert("ABC"), remove(1)),
		append(times(most-1, retain(1)), remove(1)), append(times(most-1, remove(1)), retain(1)), append(times(most-1, insert("A")), retain(1)),
		append(list(insert("AB")), times(most-1, retain(1))...),
	} {
		ahead, back := places(d)
		isExtent(t, d, hull(d), api.OK)
		sample(t, d, ahead, back)
	}
}

// P6.5: the order of positions, with the same gravity and with both, and of bytes that are kept.
func TestOrder(t *testing.T) {
	deltas(func(d []api.Piece) {
		in, _ := lengths(d)
		for x := range in + 1 {
			left, right := movedAhead(t, d, x, api.Left), movedAhead(t, d, x, api.Right)
			if left > right || (left == right) == insertedAt(d, x) {
				t.Fatalf("%s: %d moves to %d, %d", show(d), x, left, right)
			}
			if x > 0 && (left < movedAhead(t, d, x-1, api.Left) || right < movedAhead(t, d, x-1, api.Right)) {
				t.Fatalf("%s: %d moves to %d, %d, and %d behind that", show(d), x, left, right, x-1)
			}
		}
		last := -1
		for x := range in {
			place, kept, e := Kept(d, x)
			if e != api.OK || kept && place <= last {
				t.Fatalf("%s: the byte at %d is kept at %d, behind %d, %d", show(d), x, place, last, e)
			}
			if kept {
				last = place
			}
		}
	})
}

// insertedAt reports whether a delta inserts something between the bytes that are kept on both sides of a position.
func insertedAt(d []api.Piece, at int) bool {
	offset, inserted := 0, false
	for _, p := range d {
		switch p.Kind {
		case api.Insert:
			inserted = true
		case api.Retain:
			if at <= offset || at < offset+p.N {
				return inserted && at <= offset
			}
			inserted = false
		}
		offset += p.N
	}
	return inserted
}

// P6.6.
func TestAdjoint(t *testing.T) {
	deltas(func(d []api.Piece) {
		in, out := lengths(d)
		for x := range in + 1 {
			left, right := movedAhead(t, d, x, api.Left), movedAhead(t, d, x, api.Right)
			for q := range out + 1 {
				if (left <= q) != (movedBack(t, d, q, api.Right) >= x) {
					t.Fatalf("%s: %d moves to %d with gravity Left, and %d back to %d with Right", show(d), x, left, q, movedBack(t, d, q, api.Right))
				}
				if (right >= q) != (movedBack(t, d, q, api.Left) <= x) {
					t.Fatalf("%s: %d moves to %d with gravity Right, and %d back to %d with Left", show(d), x, right, q, movedBack(t, d, q, api.Left))
				}
			}
		}
	})
}

// pairs calls f with all very short deltas that follow one another, and with some long ones.
func pairs(t *testing.T, f func(a, b []api.Piece)) {
	second := map[int][][]api.Piece{}
	for _, b := range all(3) {
		in, _ := lengths(b)
		second[in] = append(second[in], b)
	}
	for _, a := range all(3) {
		_, middle := lengths(a)
		for _, b := range second[middle] {
			f(a, b)
		}
	}
	r := rand.New(rand.NewSource(2))
	for range 100 {
		a := random(r, r.Intn(60))
		_, middle := lengths(a)
		f(a, random(r, middle))
	}
}

// does reports whether a delta has a piece of some kind.
func does(d []api.Piece, kind uint8) bool {
	return slices.ContainsFunc(d, func(p api.Piece) bool { return p.Kind == kind })
}

// P6.7: under a composition.
func TestComposition(t *testing.T) {
	pairs(t, func(a, b []api.Piece) {
		ab, e := compose.Compose(a, b)
		if e != api.OK {
			t.Fatalf("Compose(%s, %s): %d", show(a), show(b), e)
		}
		same := !does(a, api.Insert) || !does(b, api.Delete)
		in, _ := lengths(a)
		for x := range in + 1 {
			once, twice := movedAhead(t, ab, x, api.Left), movedAhead(t, b, movedAhead(t, a, x, api.Left), api.Left)
			if once > twice || same && once < twice {
				t.Fatalf("%s, %s: %d moves to %d under both, to %d under one after the other", show(a), show(b), x, once, twice)
			}
			once, twice = movedAhead(t, ab, x, api.Right), movedAhead(t, b, movedAhead(t, a, x, api.Right), api.Right)
			if once < twice || same && once > twice {
				t.Fatalf("%s, %s: %d moves to %d under both, to %d under one after the other", show(a), show(b), x, once, twice)
			}
		}
	})
}

// P6.7: back is ahead under the inverse.
func TestInverse(t *testing.T) {
	deltas(func(d []api.Piece) {
		in, out := lengths(d)
		inverse, e := apply.Invert(strings.Repeat("a", in), d...)
		if e != api.OK {
			t.Fatalf("Invert%s: %d", show(d), e)
		}
		for _, g := range gravities {
			for q := range out + 1 {
				isBack(t, d, q, g, movedAhead(t, inverse, q, g), api.OK)
			}
			for x := range in + 1 {
				isPosition(t, d, x, g, movedBack(t, inverse, x, g), api.OK)
			}
		}
	})
}

// base returns a string of n bytes, of which no two that are less than 100 apart are the same.
func base(n int) string {
	s := make([]byte, n)
	for i := range s {
		s[i] = byte(128 + i%100)
	}
	return string(s)
}

// P6.8: bytes and positions outside of the extent.
func TestOutside(t *testing.T) {
	deltas(func(d []api.Piece) {
		in, out := lengths(d)
		s := base(in)
		result, e1 := apply.Apply(s, d...)
		from, to, outFrom, outTo, e2 := Extent(d...)
		if e1 != api.OK || e2 != api.OK || from > to || outFrom > outTo || s[:from] != result[:outFrom] || s[to:] != result[outTo:] {
			t.Fatalf("Extent%s: %d, %d, %d, %d, %d; %q becomes %q, %d", show(d), from, to, outFrom, outTo, e2, s, result, e1)
		}
		for _, g := range gravities {
			for x := range from {
				isPosition(t, d, x, g, x, api.OK)
				isBack(t, d, x, g, x, api.OK)
			}
			for x := to + 1; x <= in; x++ {
				isPosition(t, d, x, g, outTo+x-to, api.OK)
			}
			for x := outTo + 1; x <= out; x++ {
				isBack(t, d, x, g, to+x-outTo, api.OK)
			}
		}
		isPosition(t, d, from, api.Left, outFrom, api.OK)
		isPosition(t, d, to, api.Right, outTo, api.OK)
		isBack(t, d, outFrom, api.Left, from, api.OK)
		isBack(t, d, outTo, api.Right, to, api.OK)
	})
}

// R3: arguments stay as they are, and what is beyond their length is not read; R6: so the results stay the same.
func TestMemory(t *testing.T) {
	beyond := api.Piece{Kind: 77, N: -7, Text: "beyond"}
	whole := append(slices.Clone(example), beyond)
	d, before := whole[:len(example)], slices.Clone(whole)
	for range 2 {
		isPosition(t, d, 3, api.Left, 2, api.OK)
		isPosition(t, d, 3, api.Right, 5, api.OK)
		isBack(t, d, 3, api.Left, 2, api.OK)
		isBack(t, d, 3, api.Right, 4, api.OK)
		isRange(t, d, 1, 5, 1, 6, api.OK)
		isKept(t, d, 4, 5, api.OK)
		isExtent(t, d, [4]int{2, 4, 2, 5}, api.OK)
	}
	if !slices.Equal(whole, before) {
		t.Errorf("the argument is now %v", whole)
	}
}
