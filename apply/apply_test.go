package apply

import (
	"fmt"
	"math"
	"math/rand"
	"slices"
	"strings"
	"testing"

	"quarto/api"
	"quarto/delta"
)

func retain(n int) api.Piece          { return api.Piece{Kind: api.Retain, N: n} }
func remove(n int) api.Piece          { return api.Piece{Kind: api.Delete, N: n} }
func insert(s string) api.Piece       { return api.Piece{Kind: api.Insert, Text: s} }
func list(d ...api.Piece) []api.Piece { return d }

// few are pieces of all kinds, two of each.
var few = list(retain(1), retain(2), remove(1), remove(2), insert("A"), insert("B\n\xff"))

// wrong are pieces that are not valid: of all kinds and of unknown ones, some of them too long as well.
var wrong = list(
	retain(0), retain(-1), retain(math.MinInt), api.Piece{Kind: api.Retain, N: 1, Text: "A"},
	remove(0), remove(-1), remove(math.MinInt), api.Piece{Kind: api.Delete, N: 1, Text: "A"},
	insert(""), api.Piece{Kind: api.Insert, N: 1, Text: "A"}, api.Piece{Kind: api.Insert, N: -1, Text: "A"}, api.Piece{Kind: api.Insert, N: 1},
	api.Piece{}, api.Piece{N: 1}, api.Piece{Text: "A"}, api.Piece{Kind: 4, N: 1}, api.Piece{Kind: 9, N: api.MaxDelta + 1}, api.Piece{Kind: 255, Text: "A"},
	api.Piece{Kind: api.Retain, N: math.MaxInt, Text: "A"}, api.Piece{Kind: api.Insert, N: math.MinInt, Text: "A"},
)

// numbers are the ends of the numbers that an argument can be, and those around the limits.
var numbers = []int{math.MinInt, math.MinInt + 1, -api.MaxDelta, -1, 0, 1, 2, api.MaxDelta - 1, api.MaxDelta, api.MaxDelta + 1, math.MaxInt - 1, math.MaxInt}

// show prints the beginning of some values.
func show(l ...any) string {
	s := fmt.Sprintf("%v", l)
	return s[:min(len(s), 200)]
}

// all calls f with each sequence of at most n of the few pieces.
func all(n int, f func(d []api.Piece)) {
	var grow func(d []api.Piece)
	grow = func(d []api.Piece) {
		f(d)
		if len(d) == n {
			return
		}
		for _, p := range few {
			grow(append(slices.Clip(d), p))
		}
	}
	grow(nil)
}

// ordinary calls f with all short deltas of the few pieces and with some long ones, each with a string that it fits.
func ordinary(f func(s string, d []api.Piece)) {
	all(5, func(d []api.Piece) { f(base(input(d)), d) })
	r := rand.New(rand.NewSource(4))
	for range 50 {
		d := list()
		for range 200 {
			d = append(d, few[r.Intn(len(few))])
		}
		s := make([]byte, input(d))
		r.Read(s)
		f(string(s), d)
	}
}

// base returns a string of n bytes, from 0 to 26, which are all different and occur in no text of the few pieces.
func base(n int) string {
	return "abcdefghijklmnopqrstuvwxyz"[:n]
}

// input returns the input length of a delta.
func input(d []api.Piece) int {
	n := 0
	for _, p := range d {
		n += p.N
	}
	return n
}

// gap is what is inserted and removed between two bytes that are kept one after another.
type gap struct{ inserted, removed string }

// edit is what a delta does to a string, by the definitions: the bytes that it keeps, and its gaps, which are one more.
type edit struct {
	kept string
	gaps []gap
}

// editOf returns what d does to s, which it fits.
func editOf(s string, d []api.Piece) edit {
	x := edit{gaps: []gap{{}}}
	for _, p := range d {
		x.gaps[len(x.gaps)-1].inserted += p.Text
		for range p.N {
			if p.Kind == api.Retain {
				x.kept, x.gaps = x.kept+s[:1], append(x.gaps, gap{})
			} else {
				x.gaps[len(x.gaps)-1].removed += s[:1]
			}
			s = s[1:]
		}
	}
	return x
}

// result returns the string that an edit makes.
func (x edit) result() string {
	s := x.gaps[0].inserted
	for i := range len(x.kept) {
		s += x.kept[i:i+1] + x.gaps[i+1].inserted
	}
	return s
}

// texts returns what is inserted, and what is removed.
func (x edit) texts() (inserted, removed string) {
	for _, g := range x.gaps {
		inserted, removed = inserted+g.inserted, removed+g.removed
	}
	return inserted, removed
}

// inverse returns the edit that leads back.
func (x edit) inverse() edit {
	back := edit{kept: x.kept}
	for _, g := range x.gaps {
		back.gaps = append(back.gaps, gap{g.removed, g.inserted})
	}
	return back
}

// normal returns the delta of an edit, in normal form.
func (x edit) normal() []api.Piece {
	out, kept := list(), 0
	for i, g := range x.gaps {
		kept += min(i, 1)
		if g != (gap{}) && kept > 0 {
			out, kept = append(out, retain(kept)), 0
		}
		if g.inserted != "" {
			out = append(out, insert(g.inserted))
		}
		if g.removed != "" {
			out = append(out, remove(len(g.removed)))
		}
	}
	if kept > 0 {
		out = append(out, retain(kept))
	}
	return out
}

// applied returns the result of a delta that fits s.
func applied(t *testing.T, s string, d []api.Piece) string {
	t.Helper()
	result, e := Apply(s, d...)
	if e != api.OK {
		t.Fatalf("Apply%s: %d", show(s, d), e)
	}
	return result
}

// inverted returns the inverse of a delta that fits s.
func inverted(t *testing.T, s string, d []api.Piece) []api.Piece {
	t.Helper()
	inverse, e := Invert(s, d...)
	if e != api.OK {
		t.Fatalf("Invert%s: %d", show(s, d), e)
	}
	return inverse
}

// texts returns what a delta that fits s inserts, and what it removes.
func texts(t *testing.T, s string, d []api.Piece) (inserted, removed string) {
	t.Helper()
	inserted, e := Inserted(d...)
	if e != api.OK {
		t.Fatalf("Inserted%s: %d", show(d), e)
	}
	removed, e = Removed(s, d...)
	if e != api.OK {
		t.Fatalf("Removed%s: %d", show(s, d), e)
	}
	return inserted, removed
}

// follows checks all functions on a delta that fits s.
func follows(t *testing.T, s string, d []api.Piece, result string, inverse []api.Piece, inserted, removed string) {
	t.Helper()
	if got := applied(t, s, d); got != result {
		t.Fatalf("Apply%s: %s; want %s", show(s, d), show(got), show(result))
	}
	if got := inverted(t, s, d); !slices.Equal(got, inverse) {
		t.Fatalf("Invert%s: %s; want %s", show(s, d), show(got), show(inverse))
	}
	if in, out := texts(t, s, d); in != inserted || out != removed {
		t.Fatalf("Inserted and Removed%s: %s; want %s", show(s, d), show(in, out), show(inserted, removed))
	}
}

// refused checks that the functions that are given a string return this error for d and s, and nothing else.
func refused(t *testing.T, s string, d []api.Piece, e api.Errno) {
	t.Helper()
	if got, is := Apply(s, d...); got != "" || is != e {
		t.Fatalf("Apply%s: %s, %d; want %d", show(s, d), show(got), is, e)
	}
	if got, is := Invert(s, d...); len(got) != 0 || is != e {
		t.Fatalf("Invert%s: %s, %d; want %d", show(s, d), show(got), is, e)
	}
	if got, is := Removed(s, d...); got != "" || is != e {
		t.Fatalf("Removed%s: %s, %d; want %d", show(s, d), show(got), is, e)
	}
}

// notValid checks that all functions return this error for d and strings of all lengths, whether one would fit or not.
func notValid(t *testing.T, d []api.Piece, e api.Errno) {
	t.Helper()
	for n := range 7 {
		refused(t, base(n), d, e)
	}
	if got, is := Inserted(d...); got != "" || is != e {
		t.Fatalf("Inserted%s: %s, %d; want %d", show(d), show(got), is, e)
	}
}

// P4.1 and P4.2: ordinary deltas, in normal form and not, for strings of any bytes.
func TestApply(t *testing.T) {
	ordinary(func(s string, d []api.Piece) {
		x := editOf(s, d)
		inserted, removed := x.texts()
		follows(t, s, d, x.result(), x.inverse().normal(), inserted, removed)
	})
}

// P4.1 and P4.2: the chapter's example, the empty delta, and deltas that do one thing only.
func TestExamples(t *testing.T) {
	every := ""
	for b := range 256 {
		every += string([]byte{byte(b)})
	}
	for _, x := range []struct {
		s                 string
		d                 []api.Piece
		result            string
		inverse           []api.Piece
		inserted, removed string
	}{
		{"abcdef", list(retain(1), insert("xy"), remove(2), retain(3)), "axydef", list(retain(1), insert("bc"), remove(2), retain(3)), "xy", "bc"},
		{"abcdef", list(retain(3), insert("ab"), remove(3)), "abcab", list(retain(3), insert("def"), remove(2)), "ab", "def"},
		{"", nil, "", nil, "", ""},
		{"", list(), "", nil, "", ""},
		{"", list(insert("ab")), "ab", list(remove(2)), "ab", ""},
		{"ab", list(remove(2)), "", list(insert("ab")), "", "ab"},
		{"ab", list(retain(2)), "ab", list(retain(2)), "", ""},
		{"ab", list(retain(1), retain(1)), "ab", list(retain(2)), "", ""},
		{"ab", list(remove(2), insert("ab")), "ab", list(insert("ab"), remove(2)), "ab", "ab"},
		{"abc", list(remove(1), insert("x"), remove(1), insert("y"), retain(1)), "xyc", list(insert("ab"), remove(2), retain(1)), "xy", "ab"},
		{"abcd", list(insert("x"), insert("y"), remove(1), remove(1), retain(1), retain(1)), "xycd", list(insert("ab"), remove(2), retain(2)), "xy", "ab"},
		{"abcd", list(retain(1), remove(1), retain(1), insert("x"), retain(1)), "acxd", list(retain(1), insert("b"), retain(1), remove(1), retain(1)), "x", "b"},
		{"\xe2\x82\xac", list(remove(1), retain(1), insert("\x82"), remove(1)), "\x82\x82", list(insert("\xe2"), retain(1), insert("\xac"), remove(1)), "\x82", "\xe2\xac"},
		{every, list(remove(128), insert(every), retain(128)), every + every[128:], list(insert(every[:128]), remove(256), retain(128)), every, every[:128]},
	} {
		follows(t, x.s, x.d, x.result, x.inverse, x.inserted, x.removed)
	}
}

// P4.1 and P4.2: strings that are a byte shorter or longer than the input length, and others that do not fit.
func TestBase(t *testing.T) {
	all(4, func(d []api.Piece) {
		n := input(d)
		for _, other := range []int{n - 1, n + 1, 0, 2*n + 2} {
			if other >= 0 && other != n {
				refused(t, base(other), d, api.ErrBase)
			}
		}
	})
	refused(t, "abc", list(retain(2)), api.ErrBase)
	refused(t, "a", nil, api.ErrBase)
	refused(t, "", list(retain(1)), api.ErrBase)
	refused(t, "a", list(insert("a")), api.ErrBase)
	refused(t, "ab", list(insert("a"), remove(1)), api.ErrBase)
	refused(t, "ab", list(insert("ab")), api.ErrBase)
	whole := strings.Repeat("a", api.MaxDelta+1)
	for _, d := range [][]api.Piece{list(retain(api.MaxDelta)), list(remove(api.MaxDelta)), list(remove(1), retain(api.MaxDelta-1))} {
		refused(t, whole, d, api.ErrBase)
		refused(t, whole[2:], d, api.ErrBase)
	}
}

// P4.1 and P4.2: pieces that are not valid, before, between and behind valid ones, for strings that would fit the rest and for others.
func TestNotValid(t *testing.T) {
	for _, p := range wrong {
		for _, d := range [][]api.Piece{list(p), list(p, retain(1)), list(insert("A"), p), list(retain(2), p, remove(1)), list(retain(2), remove(1), insert("A"), p)} {
			notValid(t, d, api.ErrArg)
		}
	}
	notValid(t, list(retain(2), remove(0)), api.ErrArg)
	notValid(t, list(retain(2), remove(-1), remove(1)), api.ErrArg)
	notValid(t, list(retain(math.MaxInt), retain(0)), api.ErrLong)
	notValid(t, list(retain(0), retain(math.MaxInt)), api.ErrArg)
}

// P4.1 and P4.2: deltas that are too long, also for strings that have their length, or the length that it wraps around to.
func TestLong(t *testing.T) {
	const most = api.MaxDelta
	long := strings.Repeat("a", most)
	for _, d := range [][]api.Piece{
		list(retain(most + 1)), list(remove(most + 1)), list(insert(long + "A")), list(retain(most), remove(1)), list(remove(1), retain(most)),
		list(retain(most), insert("A")), list(insert(long), retain(1)), list(remove(most), remove(1)), list(insert(long), insert("A")),
		list(retain(math.MaxInt), remove(math.MaxInt), retain(2)), list(remove(math.MaxInt), remove(math.MaxInt), remove(5)),
	} {
		notValid(t, d, api.ErrLong)
		refused(t, long, d, api.ErrLong)
		refused(t, long+"a", d, api.ErrLong)
	}
	for _, p := range append(few, wrong...) {
		d := slices.Repeat(list(p), api.MaxPieces+1)
		notValid(t, d, api.ErrLong)
		refused(t, long[:len(d)], d, api.ErrLong)
	}
}

// P4.1 and P4.2: deltas as long as they can be, and of as many pieces.
func TestMost(t *testing.T) {
	const most = api.MaxDelta
	long, text := strings.Repeat("abcd", most/4), strings.Repeat("ABCDEFGH", most/8)
	follows(t, long, list(retain(most)), long, list(retain(most)), "", "")
	follows(t, long, list(remove(most)), "", list(insert(long)), "", long)
	follows(t, "", list(insert(text)), text, list(remove(most)), text, "")
	follows(t, long, list(remove(most), insert(text)), text, list(insert(long), remove(most)), text, long)
	follows(t, long, list(retain(most-1), insert("A"), remove(1)), long[:most-1]+"A", list(retain(most-1), insert("d"), remove(1)), "A", "d")

	const half = api.MaxPieces / 2
	s := strings.Repeat("ab", half)
	zigzag := slices.Repeat(list(retain(1), remove(1)), half)
	follows(t, s, zigzag, strings.Repeat("a", half), slices.Repeat(list(retain(1), insert("b")), half), "", strings.Repeat("b", half))
	zigzag = slices.Repeat(list(retain(2), insert("AB")), half)
	follows(t, s, zigzag, strings.Repeat("abAB", half), slices.Repeat(list(retain(2), remove(2)), half), strings.Repeat("AB", half), "")
	zigzag = slices.Repeat(list(remove(1), insert("A")), half)
	follows(t, s[half:], zigzag, strings.Repeat("A", half), list(insert(s[half:]), remove(half)), strings.Repeat("A", half), s[half:])
}

// wantEdit returns what Replace returns, by the promise. Sums are unsigned, so that they do not wrap around.
func wantEdit(n, at, k int, text string) ([]api.Piece, api.Errno) {
	if n < 0 || at < 0 || k < 0 || uint(at)+uint(k) > uint(n) {
		return nil, api.ErrRange
	}
	if n > api.MaxDelta || uint(n)-uint(k)+uint(len(text)) > api.MaxDelta {
		return nil, api.ErrLong
	}
	if text == "" && k == 0 {
		at = n // what is behind is kept by the same piece
	}
	out := list()
	for _, p := range list(retain(at), insert(text), remove(k), retain(n-at-k)) {
		if p.N+len(p.Text) > 0 {
			out = append(out, p)
		}
	}
	return out, api.OK
}

// checkEdits checks Replace, and Insert and Delete where they say the same.
func checkEdits(t *testing.T, n, at, k int, text string) {
	t.Helper()
	want, e := wantEdit(n, at, k, text)
	check := func(name string, d []api.Piece, is api.Errno) {
		t.Helper()
		if !slices.Equal(d, want) || is != e {
			t.Fatalf("%s of %d, %d, %d, %s: %s, %d; want %s, %d", name, n, at, k, show(text), show(d), is, show(want), e)
		}
		if e == api.OK && !delta.Normal(d...) {
			t.Fatalf("%s of %d, %d, %d, %s: %s is not in normal form", name, n, at, k, show(text), show(d))
		}
	}
	d, is := Replace(n, at, k, text)
	check("Replace", d, is)
	if k == 0 {
		d, is = Insert(n, at, text)
		check("Insert", d, is)
	}
	if text == "" {
		d, is = Delete(n, at, k)
		check("Delete", d, is)
	}
}

// P4.3: all edits of short strings, and those that are outside by a little.
func TestEdits(t *testing.T) {
	for n := -2; n <= 6; n++ {
		for at := -2; at <= n+2; at++ {
			for k := -2; k <= n+2; k++ {
				for _, text := range []string{"", "A", "B\n\xff"} {
					checkEdits(t, n, at, k, text)
				}
			}
		}
	}
}

// P4.3: numbers at the ends and at the limits, in all places.
func TestEditsNumbers(t *testing.T) {
	for _, n := range numbers {
		for _, at := range numbers {
			for _, k := range append(numbers, n-at, n-at-1, n-at+1) {
				for _, text := range []string{"", "A", "AB"} {
					checkEdits(t, n, at, k, text)
				}
			}
		}
	}
}

// P4.3: lengths of exactly MaxDelta and of one more, and the order of the errors.
func TestEditsLong(t *testing.T) {
	const most = api.MaxDelta
	whole := strings.Repeat("A", 2*most)
	for _, x := range []struct {
		n, at, k, text int
		e              api.Errno
	}{
		{most, 0, 0, 0, api.OK}, {most, most, 0, 0, api.OK}, {most, 0, most, 0, api.OK}, {most, 0, most, most, api.OK}, {most, most - 1, 1, 1, api.OK},
		{most, 0, 0, 1, api.ErrLong}, {most, most, 0, 1, api.ErrLong}, {most, 0, most, most + 1, api.ErrLong}, {most, most - 1, 1, 2, api.ErrLong},
		{most + 1, 0, 0, 0, api.ErrLong}, {most + 1, 0, 1, 0, api.ErrLong}, {most + 1, 0, most + 1, 0, api.ErrLong}, {most + 1, most + 1, 0, 1, api.ErrLong},
		{most - 1, 3, 0, 1, api.OK}, {most - 1, 3, 0, 2, api.ErrLong}, {most / 2, 9, 0, most / 2, api.OK}, {most / 2, 9, 0, most/2 + 1, api.ErrLong},
		{0, 0, 0, most, api.OK}, {0, 0, 0, most + 1, api.ErrLong}, {1, 0, 1, most, api.OK}, {1, 1, 0, most, api.ErrLong}, {5, 2, 2, most - 3, api.OK}, {5, 2, 2, most - 2, api.ErrLong},
		{most + 1, most + 2, 0, 0, api.ErrRange}, {most + 1, 0, most + 2, 0, api.ErrRange}, {most + 1, -1, 0, 2 * most, api.ErrRange}, {0, 1, 0, most + 1, api.ErrRange}, {0, 0, 1, 2 * most, api.ErrRange},
	} {
		checkEdits(t, x.n, x.at, x.k, whole[:x.text])
		if _, e := Replace(x.n, x.at, x.k, whole[:x.text]); e != x.e {
			t.Errorf("Replace of %d, %d, %d and %d bytes: %d; want %d", x.n, x.at, x.k, x.text, e, x.e)
		}
	}
}

// P4.3: the chapter's examples.
func TestEditsExamples(t *testing.T) {
	for i, x := range []struct {
		call func() ([]api.Piece, api.Errno)
		want []api.Piece
		e    api.Errno
	}{
		{func() ([]api.Piece, api.Errno) { return Insert(3, 1, "x") }, list(retain(1), insert("x"), retain(2)), api.OK},
		{func() ([]api.Piece, api.Errno) { return Insert(3, 4, "x") }, nil, api.ErrRange},
		{func() ([]api.Piece, api.Errno) { return Insert(3, 3, "") }, list(retain(3)), api.OK},
		{func() ([]api.Piece, api.Errno) { return Delete(3, 0, 3) }, list(remove(3)), api.OK},
		{func() ([]api.Piece, api.Errno) { return Delete(3, 2, 2) }, nil, api.ErrRange},
		{func() ([]api.Piece, api.Errno) { return Delete(0, 0, 0) }, nil, api.OK},
		{func() ([]api.Piece, api.Errno) { return Replace(5, 1, 2, "z") }, list(retain(1), insert("z"), remove(2), retain(2)), api.OK},
		{func() ([]api.Piece, api.Errno) { return Replace(-1, 0, 0, "") }, nil, api.ErrRange},
	} {
		if d, e := x.call(); !slices.Equal(d, x.want) || e != x.e {
			t.Errorf("example %d: %v, %d; want %v, %d", i, d, e, x.want, x.e)
		}
	}
}

// P4.4.
func TestInverse(t *testing.T) {
	ordinary(func(s string, d []api.Piece) {
		result, inverse := applied(t, s, d), inverted(t, s, d)
		if !delta.Normal(inverse...) {
			t.Fatalf("Invert%s: %s is not in normal form", show(s, d), show(inverse))
		}
		if back := applied(t, result, inverse); back != s {
			t.Fatalf("Invert%s: %s leads back to %s", show(s, d), show(inverse), show(back))
		}
		normal, e := delta.Normalize(d...)
		if again := inverted(t, result, inverse); !slices.Equal(again, normal) || e != api.OK {
			t.Fatalf("the inverse of Invert%s: %s; want %s", show(s, d), show(again), show(normal))
		}
		inserted, removed := texts(t, s, d)
		if in, out := texts(t, result, inverse); in != removed || out != inserted {
			t.Fatalf("Inserted and Removed of Invert%s: %s; want %s", show(s, d), show(in, out), show(removed, inserted))
		}
	})
}

// P4.5.
func TestEquivalence(t *testing.T) {
	normals := map[string][]api.Piece{} // by string and result
	all(5, func(d []api.Piece) {
		s := base(input(d))
		normal, e := delta.Normalize(d...)
		if e != api.OK {
			t.Fatalf("Normalize%s: %d", show(d), e)
		}
		result := applied(t, s, d)
		if same := applied(t, s, normal); same != result {
			t.Fatalf("Apply%s: %s; of its normal form: %s", show(s, d), show(result), show(same))
		}
		key := s + " " + result
		if other, has := normals[key]; has && !slices.Equal(normal, other) {
			t.Fatalf("Apply%s: %s, as of %s", show(s, d), show(result), show(other))
		}
		normals[key] = normal
	})
}

// P4.6.
func TestParts(t *testing.T) {
	all(3, func(a []api.Piece) {
		n := input(a)
		inserted, removed := texts(t, base(n), a)
		first := applied(t, base(n), a)
		if len(first) != n+len(inserted)-len(removed) {
			t.Fatalf("Apply%s: %d bytes; %d are inserted, and %d removed", show(base(n), a), len(first), len(inserted), len(removed))
		}
		all(2, func(b []api.Piece) {
			whole := base(n + input(b))
			joined, e := delta.Join(a, b)
			if e != api.OK {
				t.Fatalf("Join%s: %d", show(a, b), e)
			}
			want := first + applied(t, whole[n:], b)
			if got := applied(t, whole, joined); got != want {
				t.Fatalf("Apply of Join%s: %s; want %s", show(a, b), show(got), show(want))
			}
		})
	})
}

// P4.7.
func TestSingleEdits(t *testing.T) {
	for n := range 8 {
		s := base(n)
		for at := range n + 1 {
			for k := range n - at + 1 {
				for _, text := range []string{"", "A", "B\n\xff"} {
					d, e := Replace(n, at, k, text)
					want := s[:at] + text + s[at+k:]
					if got := applied(t, s, d); got != want || e != api.OK {
						t.Errorf("Apply of Replace(%d, %d, %d, %q): %q, %d; want %q", n, at, k, text, got, e, want)
					}
					if inserted, removed := texts(t, s, d); inserted != text || removed != s[at:at+k] {
						t.Errorf("Inserted and Removed of Replace(%d, %d, %d, %q): %q, %q", n, at, k, text, inserted, removed)
					}
				}
			}
		}
	}
}

// R3: arguments stay as they are, beyond their length too, and results are new memory.
func TestMemory(t *testing.T) {
	whole := list(retain(1), retain(1), insert("A"), remove(1), insert("B"), retain(3), api.Piece{Kind: 77, N: -7, Text: "beyond"})
	d, before := whole[:6], slices.Clone(whole)
	inverse := list(retain(2), insert("c"), remove(2), retain(3))
	edit := list(retain(1), insert("A"), remove(2), retain(2))
	for range 2 {
		follows(t, "abcdef", d, "abABdef", inverse, "AB", "c")
		follows(t, "abABdef", inverse, "abcdef", list(retain(2), insert("AB"), remove(1), retain(3)), "c", "AB")
		for _, r := range [][]api.Piece{inverted(t, "abcdef", d), inverted(t, "abABdef", inverse)} {
			clear(r[:cap(r)])
		}
		for _, n := range []int{5, 5, 0} {
			r, e := Replace(n, min(n, 1), min(n, 2), "A")
			if n == 5 && !slices.Equal(r, edit) || e != api.OK {
				t.Errorf("Replace: %v, %d; want %v", r, e, edit)
			}
			clear(r[:cap(r)])
		}
	}
	if !slices.Equal(whole, before) {
		t.Errorf("the argument is now %v", whole)
	}
}
