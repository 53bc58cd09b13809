package delta

import (
	"fmt"
	"math"
	"math/rand"
	"slices"
	"strings"
	"testing"

	"quarto/api"
)

func retain(n int) api.Piece          { return api.Piece{Kind: api.Retain, N: n} }
func remove(n int) api.Piece          { return api.Piece{Kind: api.Delete, N: n} }
func insert(s string) api.Piece       { return api.Piece{Kind: api.Insert, Text: s} }
func list(d ...api.Piece) []api.Piece { return d }

// few are pieces of all kinds, two of each.
var few = list(retain(1), retain(2), remove(1), remove(3), insert("a"), insert("b\xff"))

// wrong are pieces that are not valid: each kind with each number and text that it cannot have, and unknown kinds.
var wrong = list(
	retain(0), retain(-1), retain(math.MinInt), api.Piece{Kind: api.Retain, N: 1, Text: "a"}, api.Piece{Kind: api.Retain, Text: "a"},
	remove(0), remove(-1), remove(math.MinInt), api.Piece{Kind: api.Delete, N: 1, Text: "a"}, api.Piece{Kind: api.Delete, Text: "a"},
	insert(""), api.Piece{Kind: api.Insert, N: 1, Text: "a"}, api.Piece{Kind: api.Insert, N: -1, Text: "a"}, api.Piece{Kind: api.Insert, N: 1},
	api.Piece{Kind: api.Insert, N: math.MaxInt, Text: "a"}, api.Piece{Kind: api.Insert, N: math.MinInt, Text: "a"},
	api.Piece{}, api.Piece{N: 1}, api.Piece{Text: "a"}, api.Piece{Kind: 4}, api.Piece{Kind: 4, N: 1}, api.Piece{Kind: 4, Text: "a"},
	api.Piece{Kind: 9, N: api.MaxDelta + 1}, api.Piece{Kind: 255, N: 1}, api.Piece{Kind: 255, Text: "a"},
	// Not valid, and too long as well.
	api.Piece{Kind: api.Retain, N: api.MaxDelta + 1, Text: "a"}, api.Piece{Kind: api.Delete, N: math.MaxInt, Text: "a"},
	api.Piece{Kind: api.Insert, N: 1, Text: strings.Repeat("a", api.MaxDelta+1)},
)

// show prints the beginning of a value.
func show(x any) string {
	if d, is := x.([]api.Piece); is {
		x = fmt.Sprint(len(d), " pieces ", d[:min(len(d), 6)])
	}
	s := fmt.Sprint(x)
	return s[:min(len(s), 120)]
}

// all calls f with each sequence of at most n of some pieces.
func all(pieces []api.Piece, n int, f func(d []api.Piece)) {
	var grow func(d []api.Piece)
	grow = func(d []api.Piece) {
		f(d)
		if len(d) == n {
			return
		}
		for _, p := range pieces {
			grow(append(slices.Clip(d), p))
		}
	}
	grow(nil)
}

// ordinary calls f with all short deltas of the few pieces, and with some long ones.
func ordinary(f func(d []api.Piece)) {
	all(few, 5, f)
	r := rand.New(rand.NewSource(3))
	for range 50 {
		f(some(r, 200))
	}
}

// some returns n of the few pieces.
func some(r *rand.Rand, n int) []api.Piece {
	d := list()
	for range n {
		d = append(d, few[r.Intn(len(few))])
	}
	return d
}

// gap is what is inserted and removed between two bytes that are kept one after another.
type gap struct {
	text    string
	removed int
}

// gaps returns the gaps of a sequence of valid pieces, one more than the bytes that are kept.
func gaps(d []api.Piece) []gap {
	l := []gap{{}}
	for _, p := range d {
		here := &l[len(l)-1]
		switch p.Kind {
		case api.Retain:
			l = append(l, make([]gap, p.N)...)
		case api.Insert:
			here.text += p.Text
		case api.Delete:
			here.removed += p.N
		}
	}
	return l
}

// normal is the definition of the normal form.
func normal(d []api.Piece) []api.Piece {
	out, kept := list(), 0
	for i, g := range gaps(d) {
		if i > 0 {
			kept++
		}
		if g != (gap{}) && kept > 0 {
			out, kept = append(out, retain(kept)), 0
		}
		if g.text != "" {
			out = append(out, insert(g.text))
		}
		if g.removed > 0 {
			out = append(out, remove(g.removed))
		}
	}
	if kept > 0 {
		out = append(out, retain(kept))
	}
	return out
}

// lengths are the definitions of the input length and the output length.
func lengths(d []api.Piece) (in, out int) {
	for _, p := range d {
		if p.Kind != api.Insert {
			in += p.N
		}
		if p.Kind == api.Retain {
			out += p.N
		}
		out += len(p.Text)
	}
	return in, out
}

// text is the definition of the text form.
func text(d []api.Piece) string {
	l := []string{}
	for _, p := range d {
		switch p.Kind {
		case api.Retain:
			l = append(l, fmt.Sprintf("=%d", p.N))
		case api.Insert:
			l = append(l, fmt.Sprintf("+%x", p.Text))
		case api.Delete:
			l = append(l, fmt.Sprintf("-%d", p.N))
		}
	}
	return strings.Join(l, " ")
}

// refused checks that every function returns this error for d, and nothing else.
func refused(t *testing.T, d []api.Piece, e api.Errno) {
	t.Helper()
	if got := Check(d...); got != e {
		t.Fatalf("Check of %s: %d; want %d", show(d), got, e)
	}
	if in, out, got := Lengths(d...); in != 0 || out != 0 || got != e {
		t.Fatalf("Lengths of %s: %d, %d, %d; want %d", show(d), in, out, got, e)
	}
	if n, got := Normalize(d...); len(n) != 0 || got != e {
		t.Fatalf("Normalize of %s: %s, %d; want %d", show(d), show(n), got, e)
	}
	if Normal(d...) {
		t.Fatalf("Normal of %s: true", show(d))
	}
	if s, got := Text(d...); s != "" || got != e {
		t.Fatalf("Text of %s: %s, %d; want %d", show(d), show(s), got, e)
	}
	for _, x := range [][2][]api.Piece{{d, nil}, {nil, d}, {d, d}} {
		if is, got := Equivalent(x[0], x[1]); is || got != e {
			t.Fatalf("Equivalent of %s: %t, %d; want %d", show(d), is, got, e)
		}
		if j, got := Join(x[:]...); len(j) != 0 || got != e {
			t.Fatalf("Join of %s: %s, %d; want %d", show(d), show(j), got, e)
		}
	}
}

// accepted checks that d is valid, with these lengths.
func accepted(t *testing.T, d []api.Piece, in, out int) {
	t.Helper()
	if e := Check(d...); e != api.OK {
		t.Fatalf("Check of %d pieces, %s: %d", len(d), show(d), e)
	}
	if i, o, e := Lengths(d...); i != in || o != out || e != api.OK {
		t.Fatalf("Lengths of %d pieces, %s: %d, %d, %d; want %d, %d", len(d), show(d), i, o, e, in, out)
	}
}

// normalized returns the normal form of a valid delta.
func normalized(t *testing.T, d []api.Piece) []api.Piece {
	t.Helper()
	n, e := Normalize(d...)
	if e != api.OK {
		t.Fatalf("Normalize of %s: %d", show(d), e)
	}
	return n
}

// joined returns what some deltas are joined to.
func joined(t *testing.T, l ...[]api.Piece) []api.Piece {
	t.Helper()
	d, e := Join(l...)
	if e != api.OK {
		t.Fatalf("Join of %s: %d", show(l), e)
	}
	return d
}

// P3.1: ordinary deltas, the empty one among them.
func TestLengths(t *testing.T) {
	ordinary(func(d []api.Piece) {
		in, out := lengths(d)
		accepted(t, d, in, out)
	})
	accepted(t, nil, 0, 0)
	accepted(t, list(), 0, 0)
	accepted(t, list(retain(1), retain(2), remove(1), insert("a"), remove(2), insert("b")), 6, 5)
	accepted(t, list(insert("\n\x00 \xe2\x82\xac")), 0, 6)
}

// P3.1: pieces that are not valid, before, between and behind valid ones.
func TestNotValid(t *testing.T) {
	for _, p := range wrong {
		refused(t, list(p), api.ErrArg)
		refused(t, list(p, retain(1)), api.ErrArg)
		refused(t, list(insert("a"), p), api.ErrArg)
		refused(t, list(retain(3), p, remove(2)), api.ErrArg)
	}
	for kind := range 256 {
		if kind != int(api.Retain) && kind != int(api.Insert) && kind != int(api.Delete) {
			refused(t, list(api.Piece{Kind: uint8(kind), N: 1}), api.ErrArg)
			refused(t, list(api.Piece{Kind: uint8(kind), Text: "a"}), api.ErrArg)
		}
	}
}

// P3.1: the lengths may be MaxDelta, and not one more, whatever they are made of; numbers must not wrap around.
func TestMaxDelta(t *testing.T) {
	const most = api.MaxDelta
	long, half := strings.Repeat("a", most), strings.Repeat("b", most/2)
	for _, x := range []struct {
		d       []api.Piece
		in, out int
	}{
		{list(retain(most)), most, most},
		{list(remove(most)), most, 0},
		{list(insert(long)), 0, most},
		{list(remove(most), insert(long)), most, most},
		{list(insert(long), remove(most)), most, most},
		{list(retain(most-1), remove(1), insert("a")), most, most},
		{list(remove(most/2), retain(1), remove(most/2-1), insert(half), insert(half[1:])), most, most},
	} {
		accepted(t, x.d, x.in, x.out)
		if x.in == most {
			refused(t, append(slices.Clip(x.d), remove(1)), api.ErrLong)
			refused(t, append(list(remove(1)), x.d...), api.ErrLong)
		}
		if x.out == most {
			refused(t, append(slices.Clip(x.d), insert("a")), api.ErrLong)
			refused(t, append(list(insert("a")), x.d...), api.ErrLong)
		}
	}
	for _, p := range list(retain(most+1), remove(most+1), insert(long+"a"), retain(math.MaxInt), remove(math.MaxInt)) {
		refused(t, list(p), api.ErrLong)
		refused(t, list(p, p, retain(2)), api.ErrLong)
		refused(t, list(retain(1), p), api.ErrLong)
		refused(t, list(insert("a"), remove(2), p), api.ErrLong)
	}
	refused(t, list(retain(most), remove(1)), api.ErrLong)
}

// P3.1: there may be MaxPieces pieces, and not one more.
func TestMaxPieces(t *testing.T) {
	for _, p := range few {
		d := slices.Repeat(list(p), api.MaxPieces)
		in, out := lengths(d)
		accepted(t, d, in, out)
		refused(t, append(d, p), api.ErrLong)
	}
}

// P3.1: the number of pieces comes first, then the pieces in their order, and of one piece what makes it not valid.
func TestOrderOfErrors(t *testing.T) {
	tooLong := retain(api.MaxDelta + 1)
	for _, p := range wrong {
		refused(t, slices.Repeat(list(p), api.MaxPieces+1), api.ErrLong)
		refused(t, append(list(p), slices.Repeat(list(retain(1)), api.MaxPieces)...), api.ErrLong)
		refused(t, append(list(p), slices.Repeat(list(retain(1)), api.MaxPieces-1)...), api.ErrArg)
		refused(t, list(p, tooLong), api.ErrArg)
		refused(t, list(tooLong, p), api.ErrLong)
		refused(t, list(retain(api.MaxDelta), p, remove(1)), api.ErrArg)
		refused(t, list(retain(api.MaxDelta), remove(1), p), api.ErrLong)
	}
}

// P3.2: Normalize and Normal follow the definition of the normal form.
func TestNormalize(t *testing.T) {
	ordinary(func(d []api.Piece) {
		want := normal(d)
		if n, e := Normalize(d...); !slices.Equal(n, want) || e != api.OK {
			t.Fatalf("Normalize of %v: %v, %d; want %v", d, n, e, want)
		}
		if is := slices.Equal(d, want); Normal(d...) != is {
			t.Fatalf("Normal of %v: %t", d, !is)
		}
	})
}

// P3.2: the examples, and long deltas.
func TestNormalizeExamples(t *testing.T) {
	long := strings.Repeat("ab", api.MaxPieces/2)
	letters := list()
	for i := range long {
		letters = append(letters, insert(long[i:i+1]))
	}
	mixed := slices.Repeat(list(remove(1), insert("x"), remove(2), insert("yz")), api.MaxPieces/4)
	for _, x := range []struct{ d, want []api.Piece }{
		{nil, nil},
		{list(retain(1), retain(2), remove(1), insert("a"), remove(2), insert("b")), list(retain(3), insert("ab"), remove(3))},
		{list(remove(1), insert("x")), list(insert("x"), remove(1))},
		{list(insert("x"), remove(1)), list(insert("x"), remove(1))},
		{list(remove(1), remove(2)), list(remove(3))},
		{list(insert("a"), retain(1), insert("b")), list(insert("a"), retain(1), insert("b"))},
		{list(remove(1), retain(1), insert("b")), list(remove(1), retain(1), insert("b"))},
		{letters, list(insert(long))},
		{mixed, list(insert(strings.Repeat("xyz", api.MaxPieces/4)), remove(3*api.MaxPieces/4))},
		{slices.Repeat(list(retain(256)), api.MaxPieces), list(retain(api.MaxDelta))},
		{slices.Repeat(list(retain(1), remove(1)), api.MaxPieces/2), slices.Repeat(list(retain(1), remove(1)), api.MaxPieces/2)},
		{list(remove(api.MaxDelta), insert(strings.Repeat("a", api.MaxDelta))), list(insert(strings.Repeat("a", api.MaxDelta)), remove(api.MaxDelta))},
	} {
		if n, e := Normalize(x.d...); !slices.Equal(n, x.want) || e != api.OK {
			t.Errorf("Normalize of %s: %s, %d; want %s", show(x.d), show(n), e, show(x.want))
		}
		if is := slices.Equal(x.d, x.want); Normal(x.d...) != is {
			t.Errorf("Normal of %s: %t", show(x.d), !is)
		}
	}
}

// P3.2, Equivalent: ordinary deltas.
func TestEquivalent(t *testing.T) {
	all(few, 3, func(a []api.Piece) {
		x := normal(a)
		all(few, 3, func(b []api.Piece) {
			want := slices.Equal(x, normal(b))
			if is, e := Equivalent(a, b); is != want || e != api.OK {
				t.Fatalf("Equivalent of %v and %v: %t, %d; want %t", a, b, is, e, want)
			}
		})
	})
	r := rand.New(rand.NewSource(5))
	for range 50 {
		a := some(r, 100)
		if is, e := Equivalent(a, normal(a)); !is || e != api.OK {
			t.Fatalf("Equivalent of %v and its normal form: %t, %d", a, is, e)
		}
	}
}

// P3.2, Equivalent, and P3.3, Join: the errors of the first delta come before those of the second one.
func TestTwoErrors(t *testing.T) {
	bad, long := list(retain(0)), list(retain(1), retain(api.MaxDelta))
	for _, x := range []struct {
		a, b []api.Piece
		e    api.Errno
	}{{bad, long, api.ErrArg}, {long, bad, api.ErrLong}} {
		if is, e := Equivalent(x.a, x.b); is || e != x.e {
			t.Errorf("Equivalent of %v and %v: %t, %d; want %d", x.a, x.b, is, e, x.e)
		}
		if d, e := Join(x.a, x.b); len(d) != 0 || e != x.e {
			t.Errorf("Join of %v and %v: %v, %d; want %d", x.a, x.b, d, e, x.e)
		}
		if d, e := Join(nil, list(retain(2)), x.a, x.b); len(d) != 0 || e != x.e {
			t.Errorf("Join of two and %v and %v: %v, %d; want %d", x.a, x.b, d, e, x.e)
		}
	}
}

// P3.3, Join: any number of ordinary deltas.
func TestJoin(t *testing.T) {
	all(few, 3, func(a []api.Piece) {
		all(few, 2, func(b []api.Piece) {
			want := normal(append(slices.Clip(a), b...))
			if d, e := Join(a, b); !slices.Equal(d, want) || e != api.OK {
				t.Fatalf("Join of %v and %v: %v, %d; want %v", a, b, d, e, want)
			}
		})
		if d, e := Join(a); !slices.Equal(d, normal(a)) || e != api.OK {
			t.Fatalf("Join of %v: %v, %d; want %v", a, d, e, normal(a))
		}
	})
	r := rand.New(rand.NewSource(7))
	l, whole := [][]api.Piece{}, list()
	for range 500 {
		l = append(l, some(r, r.Intn(30)))
		whole = append(whole, l[len(l)-1]...)
	}
	if d, e := Join(l...); !slices.Equal(d, normal(whole)) || e != api.OK {
		t.Errorf("Join of %d deltas with %d pieces: %d pieces, %d", len(l), len(whole), len(d), e)
	}
	for _, l := range [][][]api.Piece{nil, {}, {nil}, {nil, list(), nil}} {
		if d, e := Join(l...); len(d) != 0 || e != api.OK {
			t.Errorf("Join of %v: %v, %d; want the empty delta", l, d, e)
		}
	}
	if d, e := Join(list(retain(1)), list(retain(2))); !slices.Equal(d, list(retain(3))) || e != api.OK {
		t.Errorf("Join of 1 and 2: %v, %d; want 3", d, e)
	}
}

// P3.3, Join: it is the normal form that must not be too long, and the errors of the deltas come first.
func TestJoinLong(t *testing.T) {
	const most = api.MaxDelta
	half := insert(strings.Repeat("a", most/2))
	zigzag := slices.Repeat(list(retain(1), remove(1)), api.MaxPieces/2) // as many pieces as a normal form can have
	full := slices.Repeat(list(retain(1)), api.MaxPieces)
	for _, x := range []struct {
		l    [][]api.Piece
		want []api.Piece
		e    api.Errno
	}{
		{[][]api.Piece{full, full, full}, list(retain(3 * api.MaxPieces)), api.OK},
		{[][]api.Piece{zigzag, nil}, zigzag, api.OK},
		{[][]api.Piece{zigzag, list(remove(1))}, append(zigzag[:api.MaxPieces-1:api.MaxPieces-1], remove(2)), api.OK},
		{[][]api.Piece{list(retain(1)), zigzag}, append(list(retain(2)), zigzag[1:]...), api.OK},
		{[][]api.Piece{zigzag, list(retain(1))}, nil, api.ErrLong},
		{[][]api.Piece{zigzag, list(insert("a"))}, nil, api.ErrLong},
		{[][]api.Piece{list(remove(1)), zigzag}, nil, api.ErrLong},
		{[][]api.Piece{list(retain(most)), list(insert("a"))}, nil, api.ErrLong},
		{[][]api.Piece{list(retain(most)), list(remove(1))}, nil, api.ErrLong},
		{[][]api.Piece{list(retain(1)), list(remove(most))}, nil, api.ErrLong},
		{[][]api.Piece{list(retain(most / 2)), list(retain(most / 2))}, list(retain(most)), api.OK},
		{[][]api.Piece{list(half), list(half)}, list(insert(strings.Repeat("a", most))), api.OK},
		{[][]api.Piece{list(half), list(insert("b")), list(half)}, nil, api.ErrLong},
		{[][]api.Piece{list(half), list(half), list(remove(most))}, list(insert(strings.Repeat("a", most)), remove(most)), api.OK},
		{[][]api.Piece{list(retain(most)), list(retain(most)), list(retain(0))}, nil, api.ErrArg},
		{[][]api.Piece{zigzag, zigzag, list(insert(""))}, nil, api.ErrArg},
	} {
		if d, e := Join(x.l...); !slices.Equal(d, x.want) || e != x.e {
			t.Errorf("Join of %s: %s, %d; want %s, %d", show(x.l), show(d), e, show(x.want), x.e)
		}
	}
	// Far beyond the limit: what is too long is not built first.
	if d, e := Join(slices.Repeat([][]api.Piece{list(half)}, 1<<20)...); len(d) != 0 || e != api.ErrLong {
		t.Errorf("Join of a million: %d pieces, %d; want ErrLong", len(d), e)
	}
}

// P3.3, Identity.
func TestIdentity(t *testing.T) {
	for _, n := range []int{1, 2, 10, api.MaxPieces, api.MaxPieces + 1, api.MaxDelta - 1, api.MaxDelta} {
		if d, e := Identity(n); !slices.Equal(d, list(retain(n))) || e != api.OK {
			t.Errorf("Identity(%d): %v, %d", n, d, e)
		}
	}
	for n, want := range map[int]api.Errno{0: api.OK, -1: api.ErrArg, math.MinInt: api.ErrArg, api.MaxDelta + 1: api.ErrLong, math.MaxInt: api.ErrLong} {
		if d, e := Identity(n); len(d) != 0 || e != want {
			t.Errorf("Identity(%d): %v, %d; want no piece, %d", n, d, e, want)
		}
	}
}

// P3.4 and P3.7: the text form by its definition, and back, also of deltas that are not in normal form.
func TestText(t *testing.T) {
	ordinary(func(d []api.Piece) {
		s, e := Text(d...)
		if s != text(d) || e != api.OK {
			t.Fatalf("Text of %v: %q, %d; want %q", d, s, e, text(d))
		}
		if back, e := Parse(s); !slices.Equal(back, d) || e != api.OK {
			t.Fatalf("Parse(%q): %v, %d; want %v", s, back, e, d)
		}
	})
	for b := range 256 {
		d, want := list(insert(string([]byte{byte(b)}))), fmt.Sprintf("+%02x", b)
		if s, e := Text(d...); s != want || e != api.OK {
			t.Errorf("Text of byte %d: %q, %d; want %q", b, s, e, want)
		}
		if back, e := Parse(want); !slices.Equal(back, d) || e != api.OK {
			t.Errorf("Parse(%q): %v, %d", want, back, e)
		}
	}
}

// P3.4 and P3.7: the examples, numbers of all lengths, and the longest deltas.
func TestTextExamples(t *testing.T) {
	long := strings.Repeat("\x0a\xf9", api.MaxDelta/2)
	for s, d := range map[string][]api.Piece{
		"":                                 nil,
		"=3 +6162 -3":                      list(retain(3), insert("ab"), remove(3)),
		"=1 =2":                            list(retain(1), retain(2)),
		"+000a20ff":                        list(insert("\x00\n \xff")),
		"-1 +61 -1":                        list(remove(1), insert("a"), remove(1)),
		"=1048576":                         list(retain(api.MaxDelta)),
		"-1048576":                         list(remove(api.MaxDelta)),
		"-1048575":                         list(remove(api.MaxDelta - 1)),
		"=1 =10 =100 =1000 =10000 =100000": list(retain(1), retain(10), retain(100), retain(1000), retain(10000), retain(100000)),
		"-9 =80 -705 =6020":                list(remove(9), retain(80), remove(705), retain(6020)),
		"+" + strings.Repeat("0af9", api.MaxDelta/2) + " -1048576":  list(insert(long), remove(api.MaxDelta)),
		strings.Repeat("=256 ", api.MaxPieces-1) + "=256":           slices.Repeat(list(retain(256)), api.MaxPieces),
		strings.Repeat("+61 -12345 ", 1<<6) + "+62":                 append(slices.Repeat(list(insert("a"), remove(12345)), 1<<6), insert("b")),
		strings.Repeat("-1 +ff ", api.MaxPieces/2-1) + "-1 +0a":     append(slices.Repeat(list(remove(1), insert("\xff")), api.MaxPieces/2-1), remove(1), insert("\n")),
		strings.Repeat("=1 -1 +e282ac ", api.MaxPieces/3-1) + "=77": append(slices.Repeat(list(retain(1), remove(1), insert("\xe2\x82\xac")), api.MaxPieces/3-1), retain(77)),
	} {
		if got, e := Text(d...); got != s || e != api.OK {
			t.Errorf("Text of %s: %s, %d; want %s", show(d), show(got), e, show(s))
		}
		if got, e := Parse(s); !slices.Equal(got, d) || e != api.OK {
			t.Errorf("Parse(%s): %s, %d; want %s", show(s), show(got), e, show(d))
		}
	}
}

// P3.4, Parse: texts that are the text form of pieces which Check refuses.
func TestParseLong(t *testing.T) {
	byteForm := "+" + strings.Repeat("61", api.MaxDelta)
	for _, s := range []string{
		"=1048576 =1", "=1048576 -1", "=1048576 +61", "=1 -1048576", "=1048576 =1048576", "=600000 +62 -500000",
		byteForm + "61", byteForm + " +61", byteForm + " =1",
		strings.Repeat("=1 ", api.MaxPieces) + "=1", strings.Repeat("=1048576 ", api.MaxPieces) + "+61", strings.Repeat("=1 ", 1<<20) + "=1",
	} {
		if d, e := Parse(s); len(d) != 0 || e != api.ErrLong {
			t.Errorf("Parse(%s): %s, %d; want ErrLong", show(s), show(d), e)
		}
	}
}

// P3.4, Parse: texts that are no text forms, also before, between and behind some, and of deltas that are too long.
func TestParseForm(t *testing.T) {
	for _, s := range []string{
		"=", "+", "-", "=0", "-0", "=00", "=03", "-01", "=0x1", "=+1", "=-1", "--1", "==1", "-=1", "=1.", "=1e1", "=1_0", "= 1", "=a", "=1a", "=f",
		"=1048577", "-1048577", "=9999999", "=01048576", "=9223372036854775807", "=9223372036854775808", "=18446744073709551617", "-" + strings.Repeat("9", 1000),
		"=" + strings.Repeat("0", 1000) + "1", "=184467440737095516160", "-36893488147419103233",
		"+6", "+616", "+6A", "+A6", "+FF", "+6g", "+g6", "+ 6", "+6 ", "+61 6", "+0x61", "+ab\xff\xff", "+6\x00", "+/0", "+0:", "+`a", "+a`", "+@1", "+:0",
		"1", "61", "a", "x1", "*1", "r1", "~1", ">1", "<1", "\x001", ",1", ".1", "\xff",
		"=1\n", "=1\t-1", "=1\n-1", "=1\x00", "=1,-1", "=1-1", "=1+61", "+61=1", "+61-1", "-1=1", "=1\xa0-1", "\xef\xbb\xbf=1", "=\xd9\xa1",
	} {
		for _, text := range []string{s, "=1 " + s, s + " =1", "+61 " + s + " -1", "=1048576 =1 " + s, s + " =1048576 =1", strings.Repeat("-1 ", api.MaxPieces+1) + s} {
			if d, e := Parse(text); len(d) != 0 || e != api.ErrForm {
				t.Errorf("Parse(%s): %s, %d; want ErrForm", show(text), show(d), e)
			}
		}
	}
	for _, s := range []string{" ", "  ", "=1 ", " =1", "=1  -1", "=1   -1", "+61 ", " +61", "+61  +62", "-1 ", " -1", "=1048576 =1 ", "\n", "\t=1", "=1\r\n"} {
		if d, e := Parse(s); len(d) != 0 || e != api.ErrForm {
			t.Errorf("Parse(%q): %v, %d; want ErrForm", s, d, e)
		}
	}
}

// forms calls f with each string of at most n of some parts of texts.
func forms(n int, f func(s string)) {
	parts := []string{"=", "-", "+", " ", "0", "1", "6", "a", "A", "f", "g"}
	var grow func(s string, n int)
	grow = func(s string, n int) {
		f(s)
		if n == 0 {
			return
		}
		for _, p := range parts {
			grow(s+p, n-1)
		}
	}
	grow("", n)
}

// P3.4 and P3.7: of all short texts, Parse takes exactly those that Text gives for some delta.
func TestParseShort(t *testing.T) {
	taken := 0
	forms(5, func(s string) {
		d, e := Parse(s)
		if e != api.OK {
			if e != api.ErrForm || len(d) != 0 {
				t.Fatalf("Parse(%q): %v, %d; want ErrForm", s, d, e)
			}
			return
		}
		taken++
		if back, e := Text(d...); back != s || e != api.OK {
			t.Fatalf("Text of Parse(%q): %q, %d", s, back, e)
		}
	})
	if want := shortForms(5); taken != want {
		t.Errorf("Parse takes %d texts; want %d", taken, want)
	}
}

// shortForms returns how many text forms of at most n bytes there are whose digits are 0, 1, 6, a and f.
func shortForms(n int) int {
	pieces := func(size int) int {
		numbers := 0 // of size-1 digits
		if size >= 2 {
			numbers = 2 // 1 or 6 first, for = and -
			for range size - 2 {
				numbers *= 3
			}
			numbers *= 2
		}
		texts := 0
		if size >= 3 && size%2 == 1 {
			texts = 1
			for range size - 1 {
				texts *= 5
			}
		}
		return numbers + texts
	}
	// ending[k]: text forms of exactly k bytes.
	ending := make([]int, n+1)
	total := 1
	for k := 1; k <= n; k++ {
		ending[k] = pieces(k)
		for first := 1; first < k-1; first++ {
			ending[k] += ending[first] * pieces(k-first-1)
		}
		total += ending[k]
	}
	return total
}

// P3.5.
func TestNormalForm(t *testing.T) {
	ordinary(func(d []api.Piece) {
		n := normalized(t, d)
		in, out := lengths(d)
		accepted(t, n, in, out)
		if !Normal(n...) || len(n) > len(d) {
			t.Fatalf("Normalize of %v: %v", d, n)
		}
		if again := normalized(t, n); !slices.Equal(again, n) {
			t.Fatalf("Normalize of %v: %v", n, again)
		}
		if Normal(d...) != slices.Equal(d, n) {
			t.Fatalf("Normal of %v: %t; its normal form: %v", d, Normal(d...), n)
		}
	})
}

// P3.6.
func TestJoining(t *testing.T) {
	all(few, 2, func(a []api.Piece) {
		all(few, 2, func(b []api.Piece) {
			ab := joined(t, a, b)
			in, out := lengths(append(slices.Clip(a), b...))
			accepted(t, ab, in, out)
			if d := joined(t, normalized(t, a), normalized(t, b)); !slices.Equal(d, ab) {
				t.Fatalf("Join of normal forms of %v, %v: %v; want %v", a, b, d, ab)
			}
			all(few, 2, func(c []api.Piece) {
				left, right, flat := joined(t, ab, c), joined(t, a, joined(t, b, c)), joined(t, a, b, c)
				if !slices.Equal(left, right) || !slices.Equal(left, flat) {
					t.Fatalf("Join of %v, %v, %v: %v, %v, %v", a, b, c, left, right, flat)
				}
			})
		})
		for _, l := range [][][]api.Piece{{a, nil}, {nil, a}, {nil, a, nil}} {
			if d := joined(t, l...); !slices.Equal(d, normal(a)) {
				t.Fatalf("Join of %v: %v; want %v", l, d, normal(a))
			}
		}
	})
}

// R3: arguments stay as they are, beyond their length too, and results are new memory.
func TestMemory(t *testing.T) {
	whole := list(retain(1), retain(2), insert("a"), remove(1), insert("b"), retain(4), api.Piece{Kind: 77, N: -7, Text: "beyond"})
	d, before := whole[:6], slices.Clone(whole)
	want := normal(d)
	results := [][]api.Piece{normalized(t, d), normalized(t, want), joined(t, d), joined(t, want), joined(t, want, nil), normalized(t, d)}
	if s, e := Text(d...); s != text(d) || e != api.OK {
		t.Errorf("Text: %q, %d", s, e)
	}
	if is, e := Equivalent(d, d); !is || e != api.OK || Check(d...) != api.OK || Normal(d...) {
		t.Errorf("Equivalent: %t, %d", is, e)
	}
	for i, r := range results {
		if !slices.Equal(r, want) {
			t.Errorf("result %d: %v; want %v", i, r, want)
		}
		clear(r[:cap(r)])
	}
	if !slices.Equal(whole, before) || !slices.Equal(want, normal(d)) {
		t.Errorf("the arguments are now %v, %v", whole, want)
	}
	x, _ := Parse("=1 +61")
	clear(x)
	if y, e := Parse("=1 +61"); !slices.Equal(y, list(retain(1), insert("a"))) || e != api.OK {
		t.Errorf("Parse again: %v, %d", y, e)
	}
}
