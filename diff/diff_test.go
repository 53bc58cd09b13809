package diff_test

import (
	"math"
	"math/rand"
	"slices"
	"strconv"
	"strings"
	"testing"

	"quarto/api"
	"quarto/diff"
)

// shares checks that Common returns this.
func shares(t *testing.T, a, b string, prefix, suffix int) {
	t.Helper()
	if p, k := diff.Common(a, b); p != prefix || k != suffix {
		t.Fatalf("Common(%.50q, %.50q): %d, %d; want %d, %d", a, b, p, k, prefix, suffix)
	}
}

// replaces checks that Between returns this.
func replaces(t *testing.T, a, b string, want []api.Piece) {
	t.Helper()
	if d, e := diff.Between(a, b); !slices.Equal(d, want) || e != api.OK {
		t.Fatalf("Between(%.50q, %.50q): %s, %d; want %s", a, b, show(d), e, show(want))
	}
}

// leads checks that Lines returns this, where only one delta has the least cost.
func leads(t *testing.T, a, b string, want []api.Piece) {
	t.Helper()
	if d := lined(t, a, b); !slices.Equal(d, want) {
		t.Fatalf("Lines(%.50q, %.50q): %s; want %s", a, b, show(d), show(want))
	}
}

// costs checks that Lines returns a delta of this cost, in both directions.
func costs(t *testing.T, a, b string, want int) {
	t.Helper()
	if there, back := cost(t, lined(t, a, b)), cost(t, lined(t, b, a)); there != want || back != want {
		t.Fatalf("Lines(%.50q, %.50q): costs %d, and %d back; want %d", a, b, there, back, want)
	}
}

// tooLong checks that a function refuses two strings, in both directions.
func tooLong(t *testing.T, f func(a, b string) ([]api.Piece, api.Errno), a, b string) {
	t.Helper()
	for range 2 {
		if d, e := f(a, b); len(d) != 0 || e != api.ErrLong {
			t.Fatalf("%d bytes and %d bytes: %s, %d; want ErrLong", len(a), len(b), show(d), e)
		}
		a, b = b, a
	}
}

// P8.1: all pairs of short strings.
func TestCommon(t *testing.T) {
	bytes(func(a, b string) {
		prefix, suffix := common(a, b)
		shares(t, a, b, prefix, suffix)
	})
}

// P8.1: the chapter's examples, and the edge cases.
func TestCommonExamples(t *testing.T) {
	for _, x := range []struct {
		a, b           string
		prefix, suffix int
	}{
		{"abcd", "abxd", 2, 1}, {"aa", "aaa", 2, 0}, {"", "a", 0, 0}, {"\xc3\xa9", "\xc3\xa8", 0, 0},

		// Empty strings, and strings that are the same: all of it is the prefix.
		{"", "", 0, 0}, {"abc", "abc", 3, 0}, {"\xe2\x82\xac", "\xe2\x82\xac", 3, 0}, {"\x80\x81", "\x80\x81", 2, 0}, {"\xe2\x82", "\xe2\x82", 2, 0},

		// One is a prefix or a suffix of the other one; those that would overlap.
		{"ab", "abc", 2, 0}, {"bc", "abc", 0, 2}, {"aba", "abaXaba", 3, 0}, {"aba", "aXaba", 1, 2}, {"abab", "ab", 2, 0}, {"abXab", "ab", 2, 0}, {"aXa", "aa", 1, 1}, {"aaa", "aaaaa", 3, 0},

		// Differences within the encoding of a rune: in its last bytes, and in its first ones.
		{"x\xc3\xa9y", "x\xc3\xa8y", 1, 1}, {"x\xe2\x82\xacy", "x\xe2\x82\xady", 1, 1}, {"x\xe2\x82\xac", "x\xe3\x82\xac", 1, 0}, {"\xc3\xa9\xc3\xa9", "\xc3\xa9\xc3\xa8", 2, 0}, {"\xc3\xa9", "\xe3\x82\xa9", 0, 0}, {"\xf0\x9f\x98\x80", "\xf0\x9f\x98\x81", 0, 0},

		// Encodings that would be cut, were the strings not cut at boundaries of both.
		{"a\xc3", "a\xc3\xa9", 1, 0}, {"\xe2\x82", "\xe2\x82\xac", 0, 0}, {"\xa9z", "\xc3\xa9z", 0, 1}, {"a", "a\x80", 0, 0}, {"\xc3\xa9", "\xa9", 0, 0}, {"ab", "a\x80b", 0, 1}, {"aab", "aa\x80b", 1, 1},

		// Continuation bytes at the beginning, where 0 is no boundary.
		{"\x80", "\x81", 0, 0}, {"\x80a", "\x80b", 1, 0}, {"\x80\x80", "\x80\x81", 0, 0}, {"\x80ab", "\x81ab", 0, 2}, {"\x80\x80a", "\x80a", 0, 1}, {"a", "\x80a", 0, 1}, {"\x80", "\x80\x80", 0, 0}, {"\x80\x80", "\x80\x80a", 2, 0},

		// Other bytes that are not valid UTF-8 are boundaries.
		{"\xff\xfe", "\xff\xfd", 1, 0}, {"\xc3\xc3", "\xc3\xe2", 1, 0}, {"a\xff", "b\xff", 0, 1},
	} {
		shares(t, x.a, x.b, x.prefix, x.suffix)
		shares(t, x.b, x.a, x.prefix, x.suffix)
	}
}

// P8.1: strings of more than MaxDelta bytes, and long runs of continuation bytes.
func TestCommonLong(t *testing.T) {
	a, run := strings.Repeat("ab\xc3\xa9", full), strings.Repeat("\x80", 3*full)
	shares(t, a, a, 4*full, 0)
	shares(t, a+"x"+a, a+"y"+a, 4*full, 4*full)
	shares(t, a, a+a, 4*full, 0)
	shares(t, a+"\xc3\xa9", a+"\xc3\xa8", 4*full, 0)
	shares(t, run, run, 3*full, 0)
	shares(t, run, run+"\x81", 0, 0)
	shares(t, run+"a", run+"b", 3*full, 0)
	shares(t, "a"+run, "b"+run, 0, 0)
	shares(t, "xa"+run, "ya"+run, 0, 3*full+1)
	shares(t, "xa"+run+"\x81", "xa"+run, 1, 0)
}

// P8.2: all pairs of short strings.
func TestBetween(t *testing.T) {
	bytes(func(a, b string) { replaces(t, a, b, between(a, b)) })
	texts(func(a, b string) { replaces(t, a, b, between(a, b)) })
}

// P8.2: the chapter's examples, and the edge cases.
func TestBetweenExamples(t *testing.T) {
	for _, x := range []struct {
		a, b string
		want []api.Piece
	}{
		{"abcd", "abxd", list(retain(2), insert("x"), remove(1), retain(1))},
		{"ab", "ab", list(retain(2))},
		{"", "", nil},
		{"", "ab", list(insert("ab"))},
		{"ab", "", list(remove(2))},
		{"ab", "cd", list(insert("cd"), remove(2))},
		{"ab", "abc", list(retain(2), insert("c"))},
		{"bc", "abc", list(insert("a"), retain(2))},
		{"abc", "ab", list(retain(2), remove(1))},
		{"abc", "bc", list(remove(1), retain(2))},
		{"aa", "aaa", list(retain(2), insert("a"))},
		{"aaa", "aa", list(retain(2), remove(1))},
		{"ab", "aXb", list(retain(1), insert("X"), retain(1))},
		{"aXb", "ab", list(retain(1), remove(1), retain(1))},
		{"aXbYc", "aYbXc", list(retain(1), insert("YbX"), remove(3), retain(1))},
		{"x\xc3\xa9y", "x\xc3\xa8y", list(retain(1), insert("\xc3\xa8"), remove(2), retain(1))},
		{"\xc3\xa9", "\xe3\x82\xa9", list(insert("\xe3\x82\xa9"), remove(2))},
		{"\x80\x81", "\x80\x82", list(insert("\x80\x82"), remove(2))},
		{"\x80\xff", "\x80", list(retain(1), remove(1))},
		{"\x80\x81", "\x80", list(insert("\x80"), remove(2))},
	} {
		replaces(t, x.a, x.b, x.want)
	}
}

// P8.2: lengths of exactly MaxDelta bytes and one more, of either string and of both; numbers of lines do not matter.
func TestBetweenLimits(t *testing.T) {
	a, b := strings.Repeat("a", full), strings.Repeat("\n", full)
	replaces(t, a, "", list(remove(full)))
	replaces(t, "", b, list(insert(b)))
	replaces(t, a, b, list(insert(b), remove(full)))
	replaces(t, a, a, list(retain(full)))
	replaces(t, b, b, list(retain(full)))
	replaces(t, a, a[1:], list(retain(full-1), remove(1)))
	replaces(t, b[1:], b, list(retain(full-1), insert("\n")))
	replaces(t, "x"+a[1:], "y"+a[1:], list(insert("y"), remove(1), retain(full-1)))
	replaces(t, a[1:]+"x", a[1:]+"y", list(retain(full-1), insert("y"), remove(1)))
	replaces(t, a[:full/2]+b[:full/2], a[:full/2-1]+b[:full/2], list(retain(full/2-1), remove(1), retain(full/2)))
	for _, long := range []string{a + "a", b + "\n", a + b} {
		for _, other := range []string{"", "a", a, b, long, a + "a"} {
			tooLong(t, diff.Between, long, other)
		}
	}
}

// P8.3: all pairs of short strings, held against all deltas that go by lines.
func TestLines(t *testing.T) {
	texts(func(a, b string) {
		if got, want := cost(t, lined(t, a, b)), search(a, b); got != want {
			t.Fatalf("Lines(%q, %q) costs %d; want %d", a, b, got, want)
		}
	})
	// Strings without line feeds have one line.
	bytes(func(a, b string) {
		want := len(a) + len(b)
		if a == b {
			want = 0
		}
		if got := cost(t, lined(t, a, b)); got != want {
			t.Fatalf("Lines(%q, %q) costs %d; want %d", a, b, got, want)
		}
	})
}

// P8.3: longer strings, held against all choices of lines.
func TestLinesRandom(t *testing.T) {
	r := rand.New(rand.NewSource(8))
	for range 2000 {
		a, b := random(r, r.Intn(9)), random(r, r.Intn(9))
		want := choose(a, b)
		if got := compute(a, b); got != want {
			t.Fatalf("the tests contradict each other on %q and %q: %d and %d", a, b, got, want)
		}
		costs(t, a, b, want)
	}
	for range 200 {
		a, b := random(r, r.Intn(120)), random(r, r.Intn(120))
		costs(t, a, b, compute(a, b))
	}
}

// P8.3: the chapter's example, and pairs of which one delta has the least cost.
func TestLinesExamples(t *testing.T) {
	long := "a line of more bytes\n"
	for _, x := range []struct {
		a, b string
		want []api.Piece
	}{
		{"a\nb\n", "b\n", list(remove(2), retain(2))},

		// Empty strings, and strings that are the same.
		{"", "", nil},
		{"", "a\nb", list(insert("a\nb"))},
		{"a\nb", "", list(remove(3))},
		{"a\n\nb", "a\n\nb", list(retain(4))},
		{"\n\n\n", "\n\n\n", list(retain(3))},

		// Lines that are inserted and removed, one and several, and changed.
		{"a\nb\nc\n", "a\nc\n", list(retain(2), remove(2), retain(2))},
		{"a\nc\n", "a\nb\nc\n", list(retain(2), insert("b\n"), retain(2))},
		{"a\nb\nc\n", "b\n", list(remove(2), retain(2), remove(2))},
		{"b\n", "a\nb\nc\n", list(insert("a\n"), retain(2), insert("c\n"))},
		{"a\nb\nc\nd\n", "a\nx\ny\nz\nd\n", list(retain(2), insert("x\ny\nz\n"), remove(4), retain(2))},
		{"a\nb\n", "c\nd\n", list(insert("c\nd\n"), remove(4))},
		{"abc\n", "abd\n", list(insert("abd\n"), remove(4))},
		{"a\nb\nc\nd\ne\n", "a\nB\nc\nD\ne\n", list(retain(2), insert("B\n"), remove(2), retain(2), insert("D\n"), remove(2), retain(2))},

		// Lines of different lengths: what is kept has the most bytes, not the most lines.
		{"a\n" + long, long + "a\n", list(remove(2), retain(21), insert("a\n"))},
		{long + "a\n", "a\n" + long, list(insert("a\n"), retain(21), remove(2))},
		{"a\nb\nc\nd\n" + long, long + "a\nb\nc\nd\n", list(remove(8), retain(21), insert("a\nb\nc\nd\n"))},
		{long + "\n\n\n", "\n\n\n" + long, list(insert("\n\n\n"), retain(21), remove(3))},
		{"a\n" + long + "b\n", "b\n" + long + "a\n", list(insert("b\n"), remove(2), retain(21), insert("a\n"), remove(2))},

		// Empty lines.
		{"\n", "a\n", list(insert("a\n"), remove(1))},
		{"a\n\nb\n", "a\nb\n", list(retain(2), remove(1), retain(2))},
		{"\na\n", "a\n", list(remove(1), retain(2))},

		// Last lines with and without a line feed are different lines.
		{"a\nb", "a\nb\n", list(retain(2), insert("b\n"), remove(1))},
		{"a\nb\n", "a\nb", list(retain(2), insert("b"), remove(2))},
		{"a", "a\nb", list(insert("a\nb"), remove(1))},
		{"a\nb", "a", list(insert("a"), remove(3))},
		{"b", "a\nb", list(insert("a\n"), retain(1))},
		{"a\nb", "c\nb", list(insert("c\n"), remove(2), retain(1))},
		{"ab", "b", list(insert("b"), remove(2))},

		// Strings that are not valid UTF-8, and carriage returns, which end no line.
		{"\x80\n\xff\n", "\xff\n", list(remove(2), retain(2))},
		{"\xc3\n\xa9\n", "\xc3\n\xa8\n", list(retain(2), insert("\xa8\n"), remove(2))},
		{"a\rb\n", "b\n", list(insert("b\n"), remove(4))},
		{"a\r\nb\r\n", "b\r\n", list(remove(3), retain(3))},
	} {
		leads(t, x.a, x.b, x.want)
	}
}

// P8.3: the costs of pairs of which several deltas may have the least one: lines that are exchanged and repeated.
func TestLinesCosts(t *testing.T) {
	for _, x := range []struct {
		a, b string
		want int
	}{
		{"a\nb\n", "b\na\n", 4}, {"a\nb\nc\n", "c\nb\na\n", 8}, {"a\nbbbb\n", "bbbb\na\n", 4}, {"a\nb\nc\nd\n", "c\nd\na\nb\n", 8},
		{"a\n", "a\na\n", 2}, {"a\na\na\n", "a\n", 4}, {"\n\n\n", "\n\n\n\n\n", 2}, {"a\nb\na\nb\n", "b\na\nb\na\n", 4}, {"a\na\nb\n", "a\nb\nb\n", 4},
		{"\na\n", "a\n\n", 2}, {"a\n\n", "\n\na\n", 3}, {"a\nb\na", "a\nb\na\n", 3}, {"a\na", "a\na\na", 2},
		{"ab\nc\nab\n", "c\nab\nc\n", 5}, {"abc\nabd\nabe\n", "abd\nabe\nabc\n", 8}, {"x\ny\nabcd\n", "abcd\nx\ny\n", 8},
	} {
		costs(t, x.a, x.b, x.want)
	}
}

// numbered returns n lines, all of them different.
func numbered(n int) string {
	var s strings.Builder
	for i := range n {
		s.WriteString(strconv.Itoa(i) + "\n")
	}
	return s.String()
}

// P8.3: exactly 1,024 lines and one more, the last one with and without a line feed, of either string and of both.
func TestLinesNumber(t *testing.T) {
	empty, open, different := strings.Repeat("\n", most), strings.Repeat("\n", most-1)+"a", numbered(most)
	many := []string{empty, open, different, strings.TrimSuffix(different, "\n"), strings.Repeat("a\nb\n", most/2)}
	for _, a := range many {
		leads(t, a, "", list(remove(len(a))))
		leads(t, "", a, list(insert(a)))
		leads(t, a, a, list(retain(len(a))))
		for _, b := range []string{different, "\n", "a\nx\nb\n", "1023"} {
			costs(t, a, b, compute(a, b))
		}
	}
	for _, long := range []string{empty + "\n", empty + "a", different + "\n", different + "x", "a\n" + open, numbered(2 * most), strings.Repeat("\n", full)} {
		for _, other := range append(many, "", "a", "\n", long, empty+"\n") {
			tooLong(t, diff.Lines, long, other)
		}
	}
}

// P8.3: the most pieces: lines that are kept and lines that are changed by turns.
func TestLinesPieces(t *testing.T) {
	a, b := strings.Repeat("a\nb\n", most/2), strings.Repeat("a\nx\n", most/2)
	leads(t, a, b, times(most/2, retain(2), insert("x\n"), remove(2)))
	leads(t, b, a, times(most/2, retain(2), insert("b\n"), remove(2)))
	a, b = strings.Repeat("b\na\n", most/2), strings.Repeat("a\n", most/2)
	leads(t, a, b, times(most/2, remove(2), retain(2)))
	leads(t, b, a, times(most/2, insert("b\n"), retain(2)))
	a, b = strings.Repeat("a\n", most), strings.Repeat("b\n", most)
	leads(t, a, b, list(insert(b), remove(2*most)))
	a = "first\n" + strings.Repeat("\n", most-2) + "last"
	leads(t, a, "first\nlast", list(retain(6), remove(most-2), retain(4)))
}

// P8.3: lengths of exactly MaxDelta bytes and one more, in one line and in 1,024, of either string and of both.
func TestLinesLength(t *testing.T) {
	one, other := strings.Repeat("a", full), strings.Repeat("b", full-1)+"\n"
	line := strings.Repeat("x", full/most-2)
	x, y := strings.Repeat(line+"x\n", most), strings.Repeat(line+"y\n", most)
	for _, a := range []string{one, other, x, y} {
		leads(t, a, "", list(remove(full)))
		leads(t, "", a, list(insert(a)))
		leads(t, a, a, list(retain(full)))
		for _, b := range []string{one, other, x, y} {
			if a != b {
				leads(t, a, b, list(insert(b), remove(full)))
			}
		}
	}
	half := x[:full/2] + y[:full/2]
	leads(t, x, half, list(retain(full/2), insert(y[:full/2]), remove(full/2)))
	leads(t, half, y, list(insert(y[:full/2]), remove(full/2), retain(full/2)))
	for _, long := range []string{one + "a", "\n" + other, x[1:] + "ab", x + x} {
		for _, b := range []string{"", "a\n", one, other, x, y, long, numbered(most), numbered(most + 1)} {
			tooLong(t, diff.Lines, long, b)
		}
	}
}

// refused checks that Cost returns this error.
func refused(t *testing.T, d []api.Piece, want api.Errno) {
	t.Helper()
	if n, e := diff.Cost(d...); n != 0 || e != want {
		t.Fatalf("Cost%s: %d, %d; want 0, %d", show(d), n, e, want)
	}
}

// P8.4: ordinary deltas, in normal form and not.
func TestCost(t *testing.T) {
	few := list(retain(1), retain(4), remove(1), remove(3), insert("A"), insert("B\n\xff\x80C"))
	all := [][]api.Piece{nil, list()}
	for from := 0; len(all) < 1500; {
		longest := all[from:]
		from = len(all)
		for _, d := range longest {
			for _, p := range few {
				all = append(all, append(slices.Clip(d), p))
			}
		}
	}
	for _, d := range all {
		want := 0
		for _, p := range d {
			if p.Kind != api.Retain {
				want += p.N + len(p.Text)
			}
		}
		if got := cost(t, d); got != want {
			t.Fatalf("Cost%s: %d; want %d", show(d), got, want)
		}
	}
	for _, x := range []struct {
		d    []api.Piece
		want int
	}{
		{list(remove(2), retain(2)), 2}, {list(insert("xy"), remove(3)), 5}, {nil, 0}, {list(retain(7)), 0}, {list(remove(3), insert("xy"), remove(1), insert("\xc3\xa9")), 8},
	} {
		if got := cost(t, x.d); got != x.want {
			t.Errorf("Cost%s: %d; want %d", show(x.d), got, x.want)
		}
	}
}

// P8.4: the longest deltas, and those with the most pieces.
func TestCostLimits(t *testing.T) {
	long := strings.Repeat("a", full)
	for _, x := range []struct {
		d    []api.Piece
		want int
	}{
		{list(insert(long), remove(full)), 2 * full},
		{list(remove(full), insert(long)), 2 * full},
		{list(retain(full)), 0},
		{list(insert("a"), retain(full-1), remove(1)), 2},
		{times(api.MaxPieces, insert("ab")), 2 * api.MaxPieces},
		{times(api.MaxPieces/2, remove(3), insert("ab")), 5 * api.MaxPieces / 2},
		{times(api.MaxPieces, retain(1)), 0},
	} {
		if got := cost(t, x.d); got != x.want {
			t.Errorf("Cost%s: %d; want %d", show(x.d), got, x.want)
		}
	}
	refused(t, times(api.MaxPieces+1, retain(1)), api.ErrLong)
	refused(t, times(api.MaxPieces+1, insert("a")), api.ErrLong)
	refused(t, list(insert(long+"a")), api.ErrLong)
	refused(t, list(insert(long), insert("a")), api.ErrLong)
	refused(t, list(remove(full+1)), api.ErrLong)
	refused(t, list(remove(full), remove(1)), api.ErrLong)
	refused(t, list(retain(full), insert("a")), api.ErrLong)
	refused(t, list(retain(full), remove(1)), api.ErrLong)
	refused(t, list(remove(math.MaxInt), remove(math.MaxInt), remove(2)), api.ErrLong)
}

// P8.4, R2: pieces that are not valid, and which error is returned where several would fit.
func TestCostErrors(t *testing.T) {
	for _, p := range list(
		api.Piece{}, api.Piece{N: 1}, api.Piece{Text: "a"}, api.Piece{Kind: 4, N: 1}, api.Piece{Kind: 255, Text: "a"}, api.Piece{Kind: 9, N: full + 1},
		retain(0), retain(-1), retain(math.MinInt), api.Piece{Kind: api.Retain, N: 1, Text: "a"},
		remove(0), remove(-1), remove(math.MinInt), api.Piece{Kind: api.Delete, N: full + 1, Text: "a"},
		insert(""), api.Piece{Kind: api.Insert, N: 1, Text: "a"}, api.Piece{Kind: api.Insert, N: -1, Text: "a"}, api.Piece{Kind: api.Insert, N: 1},
	) {
		refused(t, list(p), api.ErrArg)
		refused(t, list(insert("ab"), remove(3), p), api.ErrArg)
		refused(t, list(p, remove(1)), api.ErrArg)
		refused(t, list(p, remove(full+1)), api.ErrArg)
		refused(t, list(remove(full), p, remove(1)), api.ErrArg)
		refused(t, list(remove(full+1), p), api.ErrLong)
		refused(t, list(remove(full), insert("a"), remove(1), p), api.ErrLong)
		refused(t, times(api.MaxPieces, p), api.ErrArg)
		refused(t, times(api.MaxPieces+1, p), api.ErrLong)
	}
}
