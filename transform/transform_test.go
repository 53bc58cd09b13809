package transform_test

import (
	"math/rand"
	"slices"
	"strings"
	"testing"

	"quarto/api"
	"quarto/compose"
	"quarto/transform"
)

// becomes checks that Transform returns this.
func becomes(t *testing.T, a, b []api.Piece, first bool, want []api.Piece) {
	t.Helper()
	if d, e := transform.Transform(a, b, first); !slices.Equal(d, want) || e != api.OK {
		t.Fatalf("Transform(%s, %t): %s, %d; want %s", show(a, b), first, show(d), e, show(want))
	}
}

// fails checks that Transform returns this error.
func fails(t *testing.T, a, b []api.Piece, first bool, want api.Errno) {
	t.Helper()
	if d, e := transform.Transform(a, b, first); len(d) != 0 || e != want {
		t.Fatalf("Transform(%s, %t): %s, %d; want %d", show(a, b), first, show(d), e, want)
	}
}

// pair checks that Pair returns this.
func pair(t *testing.T, a, b, a2, b2 []api.Piece, want api.Errno) {
	t.Helper()
	if x, y, e := transform.Pair(a, b); !slices.Equal(x, a2) || !slices.Equal(y, b2) || e != want {
		t.Fatalf("Pair%s: %s, %d; want %s, %d", show(a, b), show(x, y), e, show(a2, b2), want)
	}
}

// merges checks that Merge returns this.
func merges(t *testing.T, a, b, want []api.Piece, e api.Errno) {
	t.Helper()
	if d, is := transform.Merge(a, b); !slices.Equal(d, want) || is != e {
		t.Fatalf("Merge%s: %s, %d; want %s, %d", show(a, b), show(d), is, show(want), e)
	}
}

// rebases checks that Rebase returns this.
func rebases(t *testing.T, d []api.Piece, base [][]api.Piece, want []api.Piece, e api.Errno) {
	t.Helper()
	if r, is := transform.Rebase(d, base...); !slices.Equal(r, want) || is != e {
		t.Fatalf("Rebase(%s, %d: %s): %s, %d; want %s, %d", show(d), len(base), show(base...), show(r), is, show(want), e)
	}
}

// disjoint checks that Disjoint returns this.
func disjoint(t *testing.T, a, b []api.Piece, want bool, e api.Errno) {
	t.Helper()
	if is, f := transform.Disjoint(a, b); is != want || f != e {
		t.Fatalf("Disjoint%s: %t, %d; want %t, %d", show(a, b), is, f, want, e)
	}
}

// refused checks that each function of two deltas returns this error and nothing else.
func refused(t *testing.T, a, b []api.Piece, e api.Errno) {
	t.Helper()
	fails(t, a, b, true, e)
	fails(t, a, b, false, e)
	pair(t, a, b, nil, nil, e)
	merges(t, a, b, nil, e)
	disjoint(t, a, b, false, e)
}

// P7.1: ordinary deltas, in normal form and not, with either text first.
func TestTransform(t *testing.T) {
	pairs(func(a, b []api.Piece) {
		becomes(t, a, b, true, transformed(a, b, true))
		becomes(t, a, b, false, transformed(a, b, false))
	})
}

// P7.1: the transformed delta makes the merged result of the result of a, for strings of any bytes.
func TestTransformResult(t *testing.T) {
	r := rand.New(rand.NewSource(1))
	for range 300 {
		bytes := make([]byte, r.Intn(60))
		r.Read(bytes)
		s := string(bytes)
		a, b := random(r, few1, len(s)), random(r, few2, len(s))
		for _, first := range []bool{true, false} {
			b2, e := transform.Transform(a, b, first)
			if e != api.OK {
				t.Fatalf("Transform(%s, %t): %d", show(a, b), first, e)
			}
			if got, want := applied(t, applied(t, s, a), b2), result(s, a, b, first); got != want {
				t.Fatalf("%q by %s and %s: %q; want %q", s, show(a), show(b2), got, want)
			}
		}
	}
}

// examples are pairs of deltas with what Transform makes of the second one: if the text of the first one is first, and if it is not.
var examples = []struct{ a, b, first, second []api.Piece }{
	// The chapter's examples.
	{list(retain(1), insert("A"), retain(2)), list(retain(1), insert("B"), remove(1), retain(1)), list(retain(2), insert("B"), remove(1), retain(1)), list(retain(1), insert("B"), retain(1), remove(1), retain(1))},
	{list(remove(2)), list(remove(1), retain(1)), nil, nil},
	{list(remove(2)), list(retain(1), insert("u"), retain(1)), list(insert("u")), list(insert("u"))},

	// The empty delta, and deltas that do one thing only.
	{nil, nil, nil, nil},
	{list(), nil, nil, nil},
	{nil, list(), nil, nil},
	{nil, list(insert("b")), list(insert("b")), list(insert("b"))},
	{list(insert("a")), nil, list(retain(1)), list(retain(1))},
	{list(insert("ab")), list(insert("cde")), list(retain(2), insert("cde")), list(insert("cde"), retain(2))},
	{list(retain(3)), list(retain(3)), list(retain(3)), list(retain(3))},
	{list(retain(3)), list(remove(3)), list(remove(3)), list(remove(3))},
	{list(remove(3)), list(retain(3)), nil, nil},
	{list(remove(3)), list(remove(3)), nil, nil},

	// Texts of both at the same offset: at the beginning, within, and at the end.
	{list(insert("a"), retain(2)), list(insert("b"), retain(2)), list(retain(1), insert("b"), retain(2)), list(insert("b"), retain(3))},
	{list(retain(1), insert("a"), retain(1)), list(retain(1), insert("b"), retain(1)), list(retain(2), insert("b"), retain(1)), list(retain(1), insert("b"), retain(2))},
	{list(retain(2), insert("a")), list(retain(2), insert("b")), list(retain(3), insert("b")), list(retain(2), insert("b"), retain(1))},
	{list(retain(1), insert("a"), retain(1)), list(retain(1), insert("b"), remove(1)), list(retain(2), insert("b"), remove(1)), list(retain(1), insert("b"), retain(1), remove(1))},
	{list(retain(1), insert("a"), remove(1)), list(retain(1), insert("b"), retain(1)), list(retain(2), insert("b")), list(retain(1), insert("b"), retain(1))},
	{list(insert("a"), remove(2)), list(insert("b"), remove(2)), list(retain(1), insert("b")), list(insert("b"), retain(1))},
	{list(insert("a"), retain(1), insert("c")), list(insert("b"), retain(1), insert("d")), list(retain(1), insert("b"), retain(2), insert("d")), list(insert("b"), retain(2), insert("d"), retain(1))},

	// Texts of both at other offsets: which one is first does not matter.
	{list(insert("a"), retain(1)), list(retain(1), insert("b")), list(retain(2), insert("b")), list(retain(2), insert("b"))},
	{list(retain(1), insert("a")), list(insert("b"), retain(1)), list(insert("b"), retain(2)), list(insert("b"), retain(2))},
	{list(insert("a"), remove(2)), list(retain(2), insert("b")), list(retain(1), insert("b")), list(retain(1), insert("b"))},
	{list(retain(2), insert("a")), list(insert("b"), remove(2)), list(insert("b"), remove(2), retain(1)), list(insert("b"), remove(2), retain(1))},

	// Texts before, within and directly behind what the other one removes.
	{list(remove(1), retain(1)), list(insert("u"), retain(2)), list(insert("u"), retain(1)), list(insert("u"), retain(1))},
	{list(remove(1), retain(1)), list(retain(1), insert("u"), retain(1)), list(insert("u"), retain(1)), list(insert("u"), retain(1))},
	{list(remove(1), retain(1)), list(retain(2), insert("u")), list(retain(1), insert("u")), list(retain(1), insert("u"))},
	{list(retain(1), remove(2), retain(1)), list(retain(1), insert("p"), retain(1), insert("q"), retain(1), insert("r"), retain(1)), list(retain(1), insert("pqr"), retain(1)), list(retain(1), insert("pqr"), retain(1))},
	{list(insert("u"), retain(2)), list(remove(1), retain(1)), list(retain(1), remove(1), retain(1)), list(retain(1), remove(1), retain(1))},
	{list(retain(1), insert("u"), retain(1)), list(remove(1), retain(1)), list(remove(1), retain(2)), list(remove(1), retain(2))},
	{list(retain(1), insert("p"), retain(1), insert("q"), retain(1), insert("r"), retain(1)), list(retain(1), remove(2), retain(1)), list(retain(2), remove(1), retain(1), remove(1), retain(2)), list(retain(2), remove(1), retain(1), remove(1), retain(2))},
	{list(retain(1), remove(1), retain(1)), list(remove(1), retain(1), insert("p"), retain(1)), list(insert("p"), remove(1), retain(1)), list(insert("p"), remove(1), retain(1))},
	{list(retain(1), insert("a"), remove(1), retain(1)), list(remove(1), retain(1), insert("p"), retain(1)), list(remove(1), retain(1), insert("p"), retain(1)), list(remove(1), retain(1), insert("p"), retain(1))},

	// Bytes that one or both remove.
	{list(remove(2), retain(2)), list(retain(1), remove(2), retain(1)), list(remove(1), retain(1)), list(remove(1), retain(1))},
	{list(retain(1), remove(2), retain(1)), list(remove(2), retain(2)), list(remove(1), retain(1)), list(remove(1), retain(1))},
	{list(retain(1), remove(1), retain(1)), list(remove(3)), list(remove(2)), list(remove(2))},
	{list(remove(3)), list(retain(1), remove(1), retain(1)), nil, nil},
	{list(retain(1), remove(1), retain(1)), list(remove(1), retain(1), remove(1)), list(remove(2)), list(remove(2))},
	{list(remove(1), retain(1)), list(retain(1), remove(1)), list(remove(1)), list(remove(1))},

	// Deltas that are not in normal form.
	{list(retain(1), retain(2)), list(retain(2), retain(1)), list(retain(3)), list(retain(3))},
	{list(remove(1), remove(1), retain(1)), list(retain(1), remove(1), remove(1)), list(remove(1)), list(remove(1))},
	{list(insert("a"), insert("b")), list(insert("c"), insert("d")), list(retain(2), insert("cd")), list(insert("cd"), retain(2))},
	{list(insert("a"), insert("b"), retain(1), retain(1)), list(insert("p"), remove(1), insert("q"), remove(1)), list(retain(2), insert("pq"), remove(2)), list(insert("pq"), retain(2), remove(2))},
	{list(remove(2), insert("a")), list(retain(2), insert("b")), list(retain(1), insert("b")), list(retain(1), insert("b"))},
	{list(remove(2), insert("a")), list(insert("b"), retain(2)), list(retain(1), insert("b")), list(insert("b"), retain(1))},
	{list(retain(2), insert("a")), list(remove(2), insert("b")), list(insert("b"), remove(2), retain(1)), list(insert("b"), remove(2), retain(1))},
	{list(insert("a"), retain(2)), list(remove(1), insert("b"), retain(1)), list(retain(1), insert("b"), remove(1), retain(1)), list(insert("b"), retain(1), remove(1), retain(1))},
	{list(retain(1), insert("a"), retain(1)), list(remove(1), insert("b"), retain(1)), list(insert("b"), remove(1), retain(2)), list(insert("b"), remove(1), retain(2))},
	{list(remove(1), insert("a"), remove(1), insert("c")), list(remove(1), insert("b"), retain(1)), list(retain(2), insert("b")), list(insert("b"), retain(2))},
}

// P7.1: the chapter's examples, and those that show what it defines.
func TestTransformExamples(t *testing.T) {
	for _, x := range examples {
		becomes(t, x.a, x.b, true, x.first)
		becomes(t, x.a, x.b, false, x.second)
	}
}

// P7.1, P7.2, P7.3, P7.5: input lengths that differ, by one and by more.
func TestBase(t *testing.T) {
	second := all(few2, 2)
	for _, a := range all(few1, 3) {
		n, _ := lengths(a)
		for _, b := range second {
			if in, _ := lengths(b); in != n {
				refused(t, a, b, api.ErrBase)
			}
		}
		refused(t, a, list(retain(n+1)), api.ErrBase)
		refused(t, list(remove(n+1)), a, api.ErrBase)
	}
	long := strings.Repeat("A", full)
	refused(t, list(retain(1)), list(retain(2)), api.ErrBase)
	refused(t, nil, list(retain(1)), api.ErrBase)
	refused(t, list(insert("a")), list(retain(1)), api.ErrBase) // Its output length would do.
	refused(t, list(retain(1)), list(insert("a")), api.ErrBase)
	refused(t, list(retain(full)), list(retain(full-1)), api.ErrBase)
	refused(t, list(remove(full-1)), list(remove(full)), api.ErrBase)
	// ErrBase comes before the length of the merged result.
	refused(t, list(insert(long)), list(insert("b"), remove(1)), api.ErrBase)
	refused(t, list(remove(1), insert("a")), list(insert(long)), api.ErrBase)
}

// P7.1, P7.2, P7.3, P7.5: deltas that Check refuses, as the first one, the second one or both: the error of the first one comes first, and before ErrBase.
func TestNotValid(t *testing.T) {
	others := [][]api.Piece{nil, list(retain(1)), list(retain(2)), list(insert("A")), list(remove(1)), list(retain(api.MaxDelta))}
	withWrong(func(d []api.Piece) {
		for _, other := range others {
			refused(t, d, other, api.ErrArg)
			refused(t, other, d, api.ErrArg)
		}
		refused(t, d, d, api.ErrArg)
		for _, long := range tooLong {
			refused(t, d, long, api.ErrArg)
			refused(t, long, d, api.ErrLong)
		}
	})
	for _, long := range tooLong {
		for _, other := range others {
			refused(t, long, other, api.ErrLong)
			refused(t, other, long, api.ErrLong)
		}
		refused(t, long, long, api.ErrLong)
	}
}

const (
	most = api.MaxPieces
	half = most / 2
	full = api.MaxDelta
)

// zigzag keeps and removes by turns, with as many pieces as there can be; zig has one less and begins with what it removes, a piece of two bytes.
var (
	zigzag = times(half, retain(1), remove(1))
	zig    = chain(list(remove(2)), times(half-1, retain(1), remove(1)))
)

// P7.1: transformed deltas of exactly MaxPieces pieces, and of one and two more.
func TestMaxPieces(t *testing.T) {
	for _, first := range []bool{true, false} {
		becomes(t, list(retain(most)), zigzag, first, zigzag)
		becomes(t, zigzag, list(retain(most)), first, list(retain(half)))
		becomes(t, zigzag, list(remove(most)), first, list(remove(half)))
		becomes(t, zigzag, zigzag, first, list(retain(half)))
		becomes(t, list(insert("A"), retain(most)), zigzag, first, chain(list(retain(2)), zigzag[1:]))
		becomes(t, list(retain(1), insert("A"), retain(most-1)), zigzag, first, chain(list(retain(2)), zigzag[1:]))
		becomes(t, list(retain(most-1), insert("A"), retain(1)), zigzag, first, chain(zigzag[:most-2], list(retain(2), remove(1))))
		fails(t, list(retain(most), insert("A")), zigzag, first, api.ErrLong)

		becomes(t, list(retain(most)), zig, first, zig)
		becomes(t, list(insert("A"), retain(most)), zig, first, chain(list(retain(1)), zig))
		fails(t, list(retain(1), insert("A"), retain(most-1)), zig, first, api.ErrLong)
		fails(t, list(insert("A"), retain(most), insert("A")), zig, first, api.ErrLong)
		becomes(t, list(retain(1), insert("A"), retain(most-2)), zig[:most-2], first, chain(list(remove(1), retain(1), remove(1)), zig[1:most-2]))

		wide := chain(zigzag[:most-1], list(remove(2)))
		becomes(t, list(retain(most+1)), wide, first, wide)
		fails(t, list(retain(most), insert("A"), retain(1)), wide, first, api.ErrLong)
	}
	// Which text is first can make the difference.
	texts := times(half, insert("P"), retain(1))
	becomes(t, list(insert("A"), retain(half)), texts, false, chain(list(insert("P"), retain(2)), texts[2:]))
	fails(t, list(insert("A"), retain(half)), texts, true, api.ErrLong)
}

// P7.1: it is the normal form that may have MaxPieces pieces, not the pieces of both deltas.
func TestManyPieces(t *testing.T) {
	a, b := times(half, retain(1), insert("A")), times(half, insert("P"), retain(1))
	becomes(t, a, b, true, times(half, insert("P"), retain(2)))
	becomes(t, a, b, false, chain(list(insert("P"), retain(1)), times(half-2, insert("P"), retain(2)), list(insert("P"), retain(3))))
	for _, first := range []bool{true, false} {
		becomes(t, a, list(retain(half)), first, list(retain(most)))
		becomes(t, chain(times(half-1, retain(2), insert("A")), list(retain(2))), zigzag, first, chain(list(retain(1), remove(1)), times(half-1, retain(2), remove(1))))
		fails(t, times(half, retain(2), insert("A")), zigzag, first, api.ErrLong)
		becomes(t, times(most, retain(1)), times(most, remove(1)), first, list(remove(most)))
		becomes(t, times(most, remove(1)), times(most, retain(1)), first, nil)
		becomes(t, times(most, insert("A")), nil, first, list(retain(most)))
		becomes(t, list(remove(half)), b, first, list(insert(strings.Repeat("P", half))))
	}
	becomes(t, times(most, insert("A")), times(most, insert("P")), true, list(retain(most), insert(strings.Repeat("P", most))))
	becomes(t, times(most, insert("A")), times(most, insert("P")), false, list(insert(strings.Repeat("P", most)), retain(most)))
}

// P7.1: lengths of exactly MaxDelta, and a merged result of one byte more.
func TestMaxDelta(t *testing.T) {
	const middle = full / 2
	long, other := strings.Repeat("ABCD", full/4), strings.Repeat("PQ", full/2)
	for _, first := range []bool{true, false} {
		for _, x := range []struct{ a, b, want []api.Piece }{
			{list(retain(full)), list(retain(full)), list(retain(full))},
			{list(retain(full)), list(remove(full)), list(remove(full))},
			{list(remove(full)), list(retain(full)), nil},
			{list(remove(full)), list(remove(full)), nil},
			{nil, list(insert(other)), list(insert(other))},
			{list(insert(long)), nil, list(retain(full))},
			{list(remove(full)), list(insert(other), remove(full)), list(insert(other))},
			{list(insert(long), remove(full)), list(remove(full)), list(retain(full))},
			{list(insert(long), remove(full)), list(retain(full)), list(retain(full))},
			{list(retain(full)), list(insert(other), remove(full)), list(insert(other), remove(full))},
			{list(remove(1), retain(full-1)), list(insert("P"), retain(full-1), remove(1)), list(insert("P"), retain(full-2), remove(1))},
			{list(remove(1), retain(full-1), insert("A")), list(retain(full-1), insert("P"), remove(1)), list(retain(full-2), insert("P"), remove(1), retain(1))},
			{list(remove(2), retain(full-2), insert("A")), list(remove(1), retain(full-2), insert("P"), retain(1)), list(retain(full-3), insert("P"), retain(2))},
		} {
			becomes(t, x.a, x.b, first, x.want)
		}
		for _, x := range [][2][]api.Piece{
			{list(insert(long)), list(insert("P"))},
			{list(insert("A")), list(insert(other))},
			{list(insert(long)), list(insert(other))},
			{list(insert(long[:middle])), list(insert(other[:middle+1]))},
			{list(insert(long[:middle+1])), list(insert(other[:middle]))},
			{list(insert(long), remove(full)), list(insert("P"), remove(full))},
			{list(remove(1), retain(full-1), insert("A")), list(remove(1), retain(full-1), insert("P"))},
			{list(insert("A"), retain(full-1), remove(1)), list(retain(full-1), insert("P"), remove(1))},
			{list(remove(1), insert("A"), retain(full-1)), list(remove(1), retain(full-1), insert("P"))},
			{list(remove(2), retain(full-2), insert("AB")), list(retain(1), remove(1), retain(full-2), insert("P"))},
		} {
			fails(t, x[0], x[1], first, api.ErrLong)
		}
	}
	becomes(t, list(insert(long[:middle])), list(insert(other[:middle])), true, list(retain(middle), insert(other[:middle])))
	becomes(t, list(insert(long[:middle])), list(insert(other[:middle])), false, list(insert(other[:middle]), retain(middle)))
}

// P7.2: ordinary deltas; the text of a is first in both results.
func TestPair(t *testing.T) {
	pairs(func(a, b []api.Piece) {
		pair(t, a, b, transformed(b, a, false), transformed(a, b, true), api.OK)
	})
}

// P7.2: the chapter's example, and the others of Transform; the empty delta, and deltas that do one thing only.
func TestPairExamples(t *testing.T) {
	pair(t, list(retain(1), insert("A"), retain(2)), list(retain(1), insert("B"), remove(1), retain(1)), list(retain(1), insert("A"), retain(2)), list(retain(2), insert("B"), remove(1), retain(1)), api.OK)
	pair(t, nil, nil, nil, nil, api.OK)
	pair(t, list(insert("a")), list(insert("b")), list(insert("a"), retain(1)), list(retain(1), insert("b")), api.OK)
	pair(t, list(insert("a")), nil, list(insert("a")), list(retain(1)), api.OK)
	pair(t, nil, list(insert("b")), list(retain(1)), list(insert("b")), api.OK)
	pair(t, list(retain(2)), list(remove(2)), nil, list(remove(2)), api.OK)
	pair(t, list(remove(2)), list(retain(2)), list(remove(2)), nil, api.OK)
	pair(t, list(remove(2)), list(remove(2)), nil, nil, api.OK)
	pair(t, list(remove(1), insert("a"), retain(1)), list(retain(1), insert("b"), retain(1)), list(insert("a"), remove(1), retain(2)), list(retain(1), insert("b"), retain(1)), api.OK)
	for _, x := range examples {
		pair(t, x.a, x.b, transformed(x.b, x.a, false), x.first, api.OK)
	}
}

// P7.2: too long results, of the former call, of the latter one, and of both.
func TestPairLong(t *testing.T) {
	// A text in the middle of what the other one removes cuts this in two.
	cuts := list(retain(1), insert("A"), retain(most-1))
	fails(t, cuts, zig, true, api.ErrLong)
	becomes(t, zig, cuts, false, list(insert("A"), retain(half-1)))
	pair(t, cuts, zig, nil, nil, api.ErrLong)
	pair(t, zig, cuts, nil, nil, api.ErrLong)
	pair(t, zig[:most-2], list(retain(1), insert("A"), retain(most-2)), chain(list(remove(1), retain(1), remove(1)), zig[1:most-2]), list(insert("A"), retain(half-1)), api.OK)

	before, texts := list(insert("A"), retain(half)), times(half, insert("P"), retain(1))
	pair(t, before, texts, nil, nil, api.ErrLong)
	pair(t, texts, before, chain(list(insert("P"), retain(2)), texts[2:]), list(retain(1), insert("A"), retain(most-1)), api.OK)

	long := strings.Repeat("A", full)
	pair(t, list(insert(long)), list(insert("P")), nil, nil, api.ErrLong)
	pair(t, list(insert("P")), list(insert(long)), nil, nil, api.ErrLong)
	pair(t, list(insert(long[1:])), list(insert("P")), list(insert(long[1:]), retain(1)), list(retain(full-1), insert("P")), api.OK)
}

// P7.3: ordinary deltas.
func TestMerge(t *testing.T) {
	pairs(func(a, b []api.Piece) {
		merges(t, a, b, merged(a, b, true), api.OK)
	})
}

// P7.3: what Compose returns, for ordinary deltas.
func TestMergeComposes(t *testing.T) {
	pairs(func(a, b []api.Piece) {
		want, e := compose.Compose(a, transformed(a, b, true))
		merges(t, a, b, want, e)
	})
}

// P7.3: the chapter's example, the empty delta, and deltas that do one thing only.
func TestMergeExamples(t *testing.T) {
	for _, x := range []struct{ a, b, want []api.Piece }{
		{list(retain(1), insert("A"), retain(2)), list(retain(1), insert("B"), remove(1), retain(1)), list(retain(1), insert("AB"), remove(1), retain(1))},
		{list(retain(1), insert("B"), remove(1), retain(1)), list(retain(1), insert("A"), retain(2)), list(retain(1), insert("BA"), remove(1), retain(1))},
		{nil, nil, nil},
		{list(insert("a")), list(insert("b")), list(insert("ab"))},
		{list(insert("a")), nil, list(insert("a"))},
		{nil, list(insert("b"), insert("c")), list(insert("bc"))},
		{list(retain(2)), list(retain(1), retain(1)), list(retain(2))},
		{list(retain(2)), list(remove(2)), list(remove(2))},
		{list(remove(1), remove(1)), list(retain(2)), list(remove(2))},
		{list(remove(2)), list(remove(2)), list(remove(2))},
		{list(remove(1), retain(1)), list(retain(1), remove(1)), list(remove(2))},
		{list(remove(2), retain(2)), list(retain(1), remove(2), retain(1)), list(remove(3), retain(1))},
		{list(remove(2)), list(retain(1), insert("u"), retain(1)), list(insert("u"), remove(2))},
		{list(remove(1), insert("a"), retain(1)), list(insert("b"), retain(2)), list(insert("ab"), remove(1), retain(1))},
		{list(retain(1), insert("a")), list(insert("b"), retain(1)), list(insert("b"), retain(1), insert("a"))},
		{list(retain(1), insert("a"), retain(1)), list(insert("b"), remove(2)), list(insert("ba"), remove(2))},
	} {
		merges(t, x.a, x.b, x.want, api.OK)
	}
}

// P7.3: merges of exactly MaxPieces pieces and of one more, with a transformed delta that is too long and with one that is not; and lengths of exactly MaxDelta and of one more.
func TestMergeLong(t *testing.T) {
	within := list(retain(1), insert("P"), retain(most-1))
	merges(t, zigzag, list(retain(most)), zigzag, api.OK)
	merges(t, list(retain(most)), zigzag, zigzag, api.OK)
	merges(t, zigzag, zigzag, zigzag, api.OK)
	merges(t, zigzag, list(remove(1), retain(most-1)), chain(list(remove(2)), zigzag[2:]), api.OK)
	merges(t, zig, within, chain(list(insert("P")), zig), api.OK)
	merges(t, zigzag, within, nil, api.ErrLong)
	merges(t, zigzag, list(insert("P"), retain(most)), nil, api.ErrLong)
	merges(t, zigzag, list(retain(most), insert("P")), nil, api.ErrLong)
	merges(t, within, zig, nil, api.ErrLong) // It would have MaxPieces pieces, but Transform has an error.
	becomes(t, within, zigzag, true, chain(list(retain(2)), zigzag[1:]))
	merges(t, within, zigzag, nil, api.ErrLong)
	texts := times(half, insert("P"), retain(1))
	merges(t, texts, list(insert("A"), retain(half)), chain(list(insert("PA")), texts[1:]), api.OK)
	merges(t, list(insert("A"), retain(half)), texts, nil, api.ErrLong)

	long := strings.Repeat("ABCD", full/4)
	merges(t, list(insert(long[1:])), list(insert("P")), list(insert(long[1:]+"P")), api.OK)
	merges(t, list(insert("P")), list(insert(long[1:])), list(insert("P"+long[1:])), api.OK)
	merges(t, list(insert(long)), list(insert("P")), nil, api.ErrLong)
	merges(t, list(insert(long), remove(full)), list(remove(full)), list(insert(long), remove(full)), api.OK)
	merges(t, list(insert("P"), remove(full)), list(insert(long), remove(full)), nil, api.ErrLong)
	merges(t, list(remove(1), retain(full-1)), list(retain(full-1), remove(1)), list(remove(1), retain(full-2), remove(1)), api.OK)
}

// P7.4: against no delta, one and several, for ordinary deltas.
func TestRebase(t *testing.T) {
	for _, d := range all(few1, 5) {
		rebases(t, d, nil, normalized(t, d), api.OK)
	}
	pairs(func(base, d []api.Piece) {
		rebases(t, d, [][]api.Piece{base}, transformed(base, d, true), api.OK)
	})
	triples(func(d, x, y []api.Piece) {
		rebases(t, d, [][]api.Piece{x, y}, transformed(y, transformed(x, d, true), true), api.OK)
	})
	r := rand.New(rand.NewSource(2))
	d := random(r, few1, 50)
	l, n, want := [][]api.Piece{}, 50, d
	for range 100 {
		x := random(r, append(list(remove(1)), few2...), n) // with one more remove, lengths do not tend to grow
		l, want = append(l, x), transformed(x, want, true)
		_, n = lengths(x)
		rebases(t, d, l, want, api.OK)
	}
}

// P7.4: the chapter's examples, the empty delta, and deltas that do one thing only.
func TestRebaseExamples(t *testing.T) {
	for _, x := range []struct {
		d    []api.Piece
		base [][]api.Piece
		want []api.Piece
	}{
		{list(insert("d"), retain(1)), [][]api.Piece{list(retain(1), insert("w")), list(remove(1), retain(1))}, list(insert("d"), retain(1))},
		{list(insert("d"), retain(1)), [][]api.Piece{list(insert("w"), remove(1))}, list(retain(1), insert("d"))},
		{list(remove(1), retain(1), insert("t")), [][]api.Piece{list(retain(1), remove(1)), list(retain(1), insert("u"))}, list(insert("t"), remove(1), retain(1))},
		{list(remove(1), retain(1), insert("t")), [][]api.Piece{list(retain(1), insert("u"), remove(1))}, list(remove(1), retain(1), insert("t"))},
		{nil, nil, nil},
		{list(), [][]api.Piece{}, nil},
		{nil, [][]api.Piece{nil, {}}, nil},
		{list(insert("a"), insert("b")), nil, list(insert("ab"))},
		{list(remove(1), insert("a"), retain(1), retain(1)), nil, list(insert("a"), remove(1), retain(2))},
		{list(remove(1), insert("a"), retain(1), retain(1)), [][]api.Piece{list(retain(3))}, list(insert("a"), remove(1), retain(2))},
		{list(remove(1), insert("a"), retain(1), retain(1)), [][]api.Piece{list(retain(1), insert("w"), retain(2))}, list(insert("a"), remove(1), retain(3))},
		{nil, [][]api.Piece{list(insert("w")), list(retain(1), insert("v"))}, list(retain(2))},
		{list(insert("a")), [][]api.Piece{list(insert("w")), list(retain(1), insert("v"))}, list(retain(2), insert("a"))},
		{list(insert("a")), [][]api.Piece{list(insert("w")), list(insert("v"), retain(1))}, list(retain(2), insert("a"))},
		{list(retain(2)), [][]api.Piece{list(remove(1), retain(1)), list(remove(1))}, nil},
		{list(remove(3)), [][]api.Piece{list(retain(1), insert("w"), retain(2)), list(retain(2), remove(1), retain(1))}, list(remove(1), retain(1), remove(1))},
		{list(remove(3)), [][]api.Piece{list(remove(2), retain(1)), list(remove(1)), list(insert("w"))}, list(retain(1))},
	} {
		rebases(t, x.d, x.base, x.want, api.OK)
	}
}

// P7.4: the error of d, and then of the first step that has one, whatever comes behind it.
func TestRebaseErrors(t *testing.T) {
	bad, long, one, two := list(retain(0)), list(retain(api.MaxDelta+1)), list(retain(1)), list(retain(2))
	more, less := list(retain(most), insert("P")), list(remove(most+1))
	for _, x := range []struct {
		d    []api.Piece
		base [][]api.Piece
		want []api.Piece
		e    api.Errno
	}{
		{bad, nil, nil, api.ErrArg},
		{long, nil, nil, api.ErrLong},
		{bad, [][]api.Piece{long}, nil, api.ErrArg},
		{long, [][]api.Piece{bad}, nil, api.ErrLong},
		{bad, [][]api.Piece{one}, nil, api.ErrArg},
		{one, [][]api.Piece{bad}, nil, api.ErrArg},
		{one, [][]api.Piece{long}, nil, api.ErrLong},
		{one, [][]api.Piece{bad, long}, nil, api.ErrArg},
		{one, [][]api.Piece{long, bad}, nil, api.ErrLong},
		{one, [][]api.Piece{two}, nil, api.ErrBase},
		{two, [][]api.Piece{one}, nil, api.ErrBase},
		{nil, [][]api.Piece{one}, nil, api.ErrBase},
		{one, [][]api.Piece{nil}, nil, api.ErrBase},
		{one, [][]api.Piece{two, bad}, nil, api.ErrBase},
		{one, [][]api.Piece{one, two, long}, nil, api.ErrBase},
		{one, [][]api.Piece{one, one, bad, two}, nil, api.ErrArg},
		{one, [][]api.Piece{one, one, long, bad}, nil, api.ErrLong},
		{one, [][]api.Piece{one, bad, one}, nil, api.ErrArg},
		{one, [][]api.Piece{two, one}, nil, api.ErrBase},
		{one, [][]api.Piece{one, one, two}, nil, api.ErrBase},
		{one, [][]api.Piece{list(insert("A"), retain(1)), one}, nil, api.ErrBase},
		{one, [][]api.Piece{list(insert("A"), retain(1)), two}, two, api.OK},
		{list(insert("A"), retain(1)), [][]api.Piece{two}, nil, api.ErrBase}, // It is the input length that counts.
		{list(insert("A"), retain(1)), [][]api.Piece{one, one}, list(insert("A"), retain(1)), api.OK},
		{zigzag, [][]api.Piece{list(retain(most))}, zigzag, api.OK},
		{zigzag, [][]api.Piece{more}, nil, api.ErrLong},
		{zigzag, [][]api.Piece{more, less}, nil, api.ErrLong}, // Against the composition of more and less it is not too long.
		{zigzag, [][]api.Piece{list(retain(most)), more, less}, nil, api.ErrLong},
		{zigzag, [][]api.Piece{more, bad}, nil, api.ErrLong},
		{zigzag, [][]api.Piece{bad, more}, nil, api.ErrArg},
		{zigzag, [][]api.Piece{more, one}, nil, api.ErrLong},
		{zigzag, [][]api.Piece{one, more}, nil, api.ErrBase},
		{list(insert("A")), [][]api.Piece{list(insert(strings.Repeat("P", api.MaxDelta)))}, nil, api.ErrLong},
		{list(insert("A")), [][]api.Piece{list(insert(strings.Repeat("P", api.MaxDelta))), list(remove(api.MaxDelta))}, nil, api.ErrLong},
		{list(insert("A")), [][]api.Piece{list(insert(strings.Repeat("P", api.MaxDelta-1)))}, list(retain(api.MaxDelta-1), insert("A")), api.OK},
		{list(retain(1)), [][]api.Piece{list(remove(1), insert(strings.Repeat("P", api.MaxDelta)))}, list(retain(api.MaxDelta)), api.OK},
	} {
		rebases(t, x.d, x.base, x.want, x.e)
	}
	withWrong(func(d []api.Piece) {
		rebases(t, d, nil, nil, api.ErrArg)
		rebases(t, d, [][]api.Piece{one}, nil, api.ErrArg)
		rebases(t, d, [][]api.Piece{long}, nil, api.ErrArg)
		rebases(t, one, [][]api.Piece{d}, nil, api.ErrArg)
		rebases(t, one, [][]api.Piece{one, list(insert("A"), retain(1)), d, one}, nil, api.ErrArg)
	})
	for _, d := range tooLong {
		rebases(t, d, nil, nil, api.ErrLong)
		rebases(t, d, [][]api.Piece{bad}, nil, api.ErrLong)
		rebases(t, one, [][]api.Piece{d}, nil, api.ErrLong)
		rebases(t, one, [][]api.Piece{one, d, bad}, nil, api.ErrLong)
	}
}

// P7.5: ordinary deltas.
func TestDisjoint(t *testing.T) {
	pairs(func(a, b []api.Piece) {
		disjoint(t, a, b, apart(a, b), api.OK)
	})
}

// P7.5: the chapter's examples, deltas of which only texts or only removed bytes meet, and others that are not in normal form.
func TestDisjointExamples(t *testing.T) {
	for _, x := range []struct {
		a, b []api.Piece
		want bool
	}{
		{list(retain(1), insert("A"), retain(2)), list(retain(1), insert("B"), remove(1), retain(1)), false},
		{list(insert("u"), retain(1)), list(retain(1), insert("v")), true},
		{nil, nil, true},
		{list(), nil, true},
		{list(retain(2)), list(retain(2)), true},
		{list(retain(2)), list(remove(2)), true},
		{list(retain(2)), list(insert("u"), remove(2)), true},
		{nil, list(insert("u")), true},
		{list(insert("u")), list(insert("v")), false},
		{list(insert("u")), list(insert("u")), false},
		{list(insert("u"), retain(2)), list(insert("v"), remove(2)), false},
		{list(retain(2), insert("u")), list(retain(2), insert("v")), false},
		{list(retain(2), insert("u")), list(remove(1), retain(1), insert("v")), false},
		{list(insert("u"), retain(2), insert("u")), list(retain(1), insert("v"), retain(1)), true},
		{list(remove(2)), list(remove(2)), false},
		{list(remove(2)), list(retain(1), remove(1)), false},
		{list(remove(1), retain(1)), list(remove(2)), false},
		{list(remove(1), retain(1)), list(retain(1), remove(1)), true},
		{list(retain(1), remove(1), retain(1)), list(remove(1), retain(1), remove(1)), true},
		{list(retain(2), remove(2), retain(1)), list(remove(1), retain(2), remove(1), retain(1)), false},
		{list(remove(2)), list(insert("v"), retain(1), insert("v"), retain(1), insert("v")), true},
		{list(insert("u"), remove(2)), list(retain(1), insert("v"), retain(1), insert("v")), true},
		{list(remove(1), insert("u"), retain(1)), list(retain(1), insert("v"), retain(1)), true}, // u is at 0.
		{list(remove(1), insert("u"), retain(1)), list(insert("v"), retain(2)), false},
		{list(remove(2), insert("u")), list(retain(2), insert("v")), true},
		{list(retain(1), remove(1), insert("u")), list(retain(1), insert("v"), retain(1)), false},
		{list(retain(1), insert("u"), retain(1)), list(remove(1), insert("v"), retain(1)), true},
		{list(insert("u"), retain(2)), list(remove(1), insert("v"), retain(1)), false},
		{list(remove(1), remove(1), retain(1), retain(1)), list(retain(1), retain(1), remove(1), remove(1)), true},
	} {
		disjoint(t, x.a, x.b, x.want, api.OK)
	}
}

// P7.5: at the limits; that a transformed delta or a merge is too long is no error.
func TestDisjointLong(t *testing.T) {
	disjoint(t, zigzag, zigzag, false, api.OK)
	disjoint(t, zigzag, list(retain(most)), true, api.OK)
	disjoint(t, zigzag, list(retain(most), insert("P")), true, api.OK)
	disjoint(t, zigzag, times(half, remove(1), retain(1)), true, api.OK)
	disjoint(t, zigzag, list(retain(most-1), remove(1)), false, api.OK)
	disjoint(t, times(half, retain(1), insert("A")), times(half, insert("P"), retain(1)), false, api.OK)
	disjoint(t, times(most, insert("A")), times(most, insert("P")), false, api.OK)

	long := strings.Repeat("A", full)
	disjoint(t, list(insert(long)), list(insert("P")), false, api.OK)
	disjoint(t, list(insert(long)), nil, true, api.OK)
	disjoint(t, list(retain(full)), list(remove(full)), true, api.OK)
	disjoint(t, list(remove(full)), list(retain(full-1), remove(1)), false, api.OK)
	disjoint(t, list(insert("A"), retain(full-1)), list(retain(full-1), insert("P")), true, api.OK)
	disjoint(t, list(insert("A"), retain(full-1)), list(insert("P"), retain(full-1)), false, api.OK)
	disjoint(t, list(insert(long), remove(1)), list(remove(1), insert("P")), false, api.OK)
}
