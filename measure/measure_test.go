package measure

import (
	"math"
	"math/big"
	"strings"
	"testing"

	"quarto/api"
)

// few has one byte of each class that the definitions tell apart, and neighbours of the classes' ends.
const few = "\x00\n\x7f\x80\xbf\xc0\xff"

// example is the string of the chapter's examples.
const example = "a\n\xe2\x82\xac\n"

// long has runes of all sizes, and lines of different lengths, some of them empty.
var long = strings.Repeat("\n\na\xc3\xa9\xe2\x82\xac\n\xf0\x9f\x98\x80 b\x82\x82\n", 40) + "tail"

// numbers are the ends of the numbers that a component can be, and some between them.
var numbers = []int{math.MinInt, math.MinInt + 1, -7, -1, 0, 1, 6, math.MaxInt - 1, math.MaxInt}

// all calls f with each string of at most n bytes of an alphabet.
func all(alphabet string, n int, f func(s string)) {
	var grow func(s string)
	grow = func(s string) {
		f(s)
		if len(s) == n {
			return
		}
		for i := range len(alphabet) {
			grow(s + alphabet[i:i+1])
		}
	}
	grow("")
}

// several calls f with short strings of every form, with the example, and with a long string.
func several(f func(s string)) {
	all(few, 4, f)
	f(example)
	f(long)
}

// offsets returns all offsets of s, some beyond its ends, and the numbers.
func offsets(s string) []int {
	out := append([]int{}, numbers...)
	for at := -3; at <= len(s)+3; at++ {
		out = append(out, at)
	}
	return out
}

// starts returns the offsets at which the runes of s begin, by the definition.
func starts(s string) []int {
	out := []int{}
	for at := range len(s) {
		if s[at] < 128 || s[at] > 191 {
			out = append(out, at)
		}
	}
	return out
}

// feeds returns the offsets of the line feeds of s.
func feeds(s string) []int {
	out := []int{}
	for at := range len(s) {
		if s[at] == 10 {
			out = append(out, at)
		}
	}
	return out
}

// below returns how many of some offsets are less than at.
func below(l []int, at int) int {
	n := 0
	for _, x := range l {
		if x < at {
			n++
		}
	}
	return n
}

// runeAt, runesBefore, lineAt and lineOf are the definitions of P2.2 and P2.3; false is ErrRange.
func runeAt(s string, n int) (int, bool) {
	l := append(starts(s), len(s))
	if n < 0 || n >= len(l) {
		return 0, false
	}
	return l[n], true
}

func runesBefore(s string, at int) (int, bool) {
	if at < 0 || at > len(s) {
		return 0, false
	}
	return below(starts(s), at), true
}

func lineAt(s string, n int) (int, bool) {
	l := feeds(s)
	if n < 0 || n > len(l) {
		return 0, false
	}
	if n == 0 {
		return 0, true
	}
	return l[n-1] + 1, true
}

func lineOf(s string, at int) (int, bool) {
	if at < 0 || at > len(s) {
		return 0, false
	}
	return below(feeds(s), at), true
}

// same compares a function with its definition, for a string and each offset and number.
func same(t *testing.T, name, s string, f func(string, int) (int, api.Errno), want func(string, int) (int, bool)) {
	t.Helper()
	for _, n := range offsets(s) {
		x, is := want(s, n)
		fail := api.OK
		if !is {
			fail = api.ErrRange
		}
		if got, e := f(s, n); got != x || e != fail {
			t.Fatalf("%s(%x, %d): %d, %d; want %d, %d", name, s, n, got, e, x, fail)
		}
	}
}

// must returns the result of a call that has to succeed.
func must(t *testing.T, f func(string, int) (int, api.Errno), s string, n int) int {
	t.Helper()
	x, e := f(s, n)
	if e != api.OK {
		t.Fatalf("%x, %d: error %d", s, n, e)
	}
	return x
}

// modulo returns the number from -2^63 on that is x modulo 2^64.
func modulo(x *big.Int) int {
	b := new(big.Int).And(x, new(big.Int).SetUint64(math.MaxUint64))
	return int(b.Uint64())
}

// P2.1, Of.
func TestOf(t *testing.T) {
	several(func(s string) {
		want := api.Measure{Bytes: len(s), Runes: len(starts(s)), Lines: len(feeds(s))}
		if m := Of(s); m != want {
			t.Fatalf("Of(%x): %v; want %v", s, m, want)
		}
	})
	for b := range 256 {
		want := api.Measure{Bytes: 1, Runes: 1}
		if b >= 128 && b <= 191 {
			want.Runes = 0
		}
		if b == 10 {
			want.Lines = 1
		}
		if m := Of(string([]byte{byte(b)})); m != want {
			t.Errorf("Of byte %d: %v; want %v", b, m, want)
		}
	}
}

// P2.1, Of: the example, and strings with a part that is empty or not valid UTF-8.
func TestOfExamples(t *testing.T) {
	for s, want := range map[string]api.Measure{
		example:                     {Bytes: 6, Runes: 4, Lines: 2},
		"":                          {},
		"\n":                        {Bytes: 1, Runes: 1, Lines: 1},
		"\r\n\v\f":                  {Bytes: 4, Runes: 4, Lines: 1},
		"\xc2\x85\xe2\x80\xa8":      {Bytes: 5, Runes: 2}, // other runes that break lines elsewhere
		"\x82a":                     {Bytes: 2, Runes: 1},
		"\x82\x82":                  {Bytes: 2},
		"\xe2\x82\n":                {Bytes: 3, Runes: 2, Lines: 1},
		"\xff\xfe\xc0":              {Bytes: 3, Runes: 3},
		strings.Repeat("\n", 70000): {Bytes: 70000, Runes: 70000, Lines: 70000},
	} {
		if m := Of(s); m != want {
			t.Errorf("Of(%.20x): %v; want %v", s, m, want)
		}
	}
}

// P2.1, Add: each component for itself, for any numbers.
func TestAdd(t *testing.T) {
	for _, x := range numbers {
		for _, y := range numbers {
			sum := modulo(new(big.Int).Add(big.NewInt(int64(x)), big.NewInt(int64(y))))
			for i := range 3 {
				a, b, c := counts{1, 2, 3}, counts{10, 20, 30}, counts{11, 22, 33}
				a[i], b[i], c[i] = x, y, sum
				if m := Add(a.measure(), b.measure()); m != c.measure() {
					t.Fatalf("Add(%v, %v): %v; want %v", a, b, m, c)
				}
			}
		}
	}
}

// P2.1, Add: any number of arguments, which stay as they are.
func TestAddArguments(t *testing.T) {
	a, b := api.Measure{Bytes: 3, Runes: 2, Lines: 1}, api.Measure{Bytes: 40, Runes: 50, Lines: 60}
	l := []api.Measure{a, b, a, b}
	for n, want := range []api.Measure{{}, a, {Bytes: 43, Runes: 52, Lines: 61}, {Bytes: 46, Runes: 54, Lines: 62}, {Bytes: 86, Runes: 104, Lines: 122}} {
		if m := Add(l[:n]...); m != want {
			t.Errorf("Add of %d measures: %v; want %v", n, m, want)
		}
	}
	if l[0] != a || l[1] != b || l[2] != a || l[3] != b {
		t.Errorf("Add changed its arguments: %v", l)
	}
	if Add() != (api.Measure{}) || Add(nil...) != (api.Measure{}) || Add([]api.Measure{}...) != (api.Measure{}) {
		t.Error("Add of nothing is not the zero Measure")
	}
	top := api.Measure{Bytes: math.MaxInt, Runes: math.MinInt, Lines: -1}
	if m := Add(top, top, top, top); m != (api.Measure{Bytes: -4, Runes: 0, Lines: -4}) {
		t.Errorf("Add of four: %v; want -4, 0, -4", m)
	}
}

// P2.1, Sub: each component for itself, for any numbers.
func TestSub(t *testing.T) {
	for _, x := range numbers {
		for _, y := range numbers {
			for i := range 3 {
				a, b, c := counts{9, 8, 7}, counts{3, 8, -5}, counts{6, 0, 12}
				a[i], b[i] = x, y
				c[i] = modulo(new(big.Int).Sub(big.NewInt(int64(x)), big.NewInt(int64(y))))
				fail := api.OK
				if y > x {
					c, fail = counts{}, api.ErrRange
				}
				if m, e := Sub(a.measure(), b.measure()); m != c.measure() || e != fail {
					t.Fatalf("Sub(%v, %v): %v, %d; want %v, %d", a, b, m, e, c, fail)
				}
			}
		}
	}
}

// P2.1, Sub: the example, and measures of which several components are too great.
func TestSubExamples(t *testing.T) {
	for _, x := range []struct {
		a, b, want counts
		e          api.Errno
	}{
		{counts{3, 2, 1}, counts{1, 1, 2}, counts{}, api.ErrRange},
		{counts{3, 2, 1}, counts{4, 3, 2}, counts{}, api.ErrRange},
		{counts{3, 2, 1}, counts{4, 0, 0}, counts{}, api.ErrRange},
		{counts{3, 2, 1}, counts{0, 3, 0}, counts{}, api.ErrRange},
		{counts{3, 2, 1}, counts{1, 1, 1}, counts{2, 1, 0}, api.OK},
		{counts{3, 2, 1}, counts{3, 2, 1}, counts{}, api.OK},
		{counts{3, 2, 1}, counts{}, counts{3, 2, 1}, api.OK},
		{counts{}, counts{-1, -2, -3}, counts{1, 2, 3}, api.OK},
		{counts{math.MaxInt, math.MaxInt, math.MaxInt}, counts{math.MinInt, -1, math.MaxInt}, counts{-1, math.MinInt, 0}, api.OK},
	} {
		if m, e := Sub(x.a.measure(), x.b.measure()); m != x.want.measure() || e != x.e {
			t.Errorf("Sub(%v, %v): %v, %d; want %v, %d", x.a, x.b, m, e, x.want, x.e)
		}
	}
}

// P2.2.
func TestRunes(t *testing.T) {
	several(func(s string) {
		same(t, "Rune", s, Rune, runeAt)
		same(t, "RunesBefore", s, RunesBefore, runesBefore)
	})
}

// P2.3.
func TestLines(t *testing.T) {
	several(func(s string) {
		same(t, "Line", s, Line, lineAt)
		same(t, "LineOf", s, LineOf, lineOf)
	})
}

// P2.2 and P2.3: the examples, and their like at the edges.
func TestOffsetExamples(t *testing.T) {
	const none = -1 // stands for ErrRange
	for _, x := range []struct {
		name string
		f    func(string, int) (int, api.Errno)
		s    string
		want map[int]int
	}{
		{"Rune", Rune, example, map[int]int{-1: none, 0: 0, 1: 1, 2: 2, 3: 5, 4: 6, 5: none, math.MinInt: none, math.MaxInt: none}},
		{"RunesBefore", RunesBefore, example, map[int]int{-1: none, 0: 0, 2: 2, 3: 3, 4: 3, 5: 3, 6: 4, 7: none, math.MinInt: none, math.MaxInt: none}},
		{"Line", Line, example, map[int]int{-1: none, 0: 0, 1: 2, 2: 6, 3: none, math.MinInt: none, math.MaxInt: none}},
		{"LineOf", LineOf, example, map[int]int{-1: none, 0: 0, 1: 0, 2: 1, 3: 1, 5: 1, 6: 2, 7: none, math.MinInt: none, math.MaxInt: none}},
		{"Rune", Rune, "\x82a", map[int]int{0: 1, 1: 2, 2: none}},
		{"RunesBefore", RunesBefore, "\x82a", map[int]int{0: 0, 1: 0, 2: 1, 3: none}},
		{"Rune", Rune, "\x82\x82", map[int]int{0: 2, 1: none}},
		{"RunesBefore", RunesBefore, "\x82\x82", map[int]int{2: 0}},
		{"Rune", Rune, "", map[int]int{-1: none, 0: 0, 1: none}},
		{"RunesBefore", RunesBefore, "", map[int]int{-1: none, 0: 0, 1: none}},
		{"Line", Line, "", map[int]int{-1: none, 0: 0, 1: none}},
		{"LineOf", LineOf, "", map[int]int{-1: none, 0: 0, 1: none}},
		{"Line", Line, "\n\n", map[int]int{0: 0, 1: 1, 2: 2, 3: none}},
		{"LineOf", LineOf, "\n\n", map[int]int{0: 0, 1: 1, 2: 2, 3: none}},
		{"Line", Line, "abc", map[int]int{0: 0, 1: none}},
		{"LineOf", LineOf, "abc", map[int]int{3: 0, 4: none}},
	} {
		for n, want := range x.want {
			fail := api.OK
			if want == none {
				want, fail = 0, api.ErrRange
			}
			if got, e := x.f(x.s, n); got != want || e != fail {
				t.Errorf("%s(%x, %d): %d, %d; want %d, %d", x.name, x.s, n, got, e, want, fail)
			}
		}
	}
}

// P2.4: the measure of a concatenation, Sub of a sum, and the order of the components.
func TestSums(t *testing.T) {
	all(few, 3, func(s string) {
		all(few, 2, func(u string) {
			a, b, sum := Of(s), Of(u), Of(s+u)
			if sum != Add(a, b) {
				t.Fatalf("Of(%x): %v; that of its parts: %v", s+u, sum, Add(a, b))
			}
			if m, e := Sub(sum, b); m != a || e != api.OK {
				t.Fatalf("Sub(%v, %v): %v, %d; want %v", sum, b, m, e, a)
			}
		})
		if m := Of(s); m.Runes > m.Bytes || m.Lines > m.Runes {
			t.Fatalf("Of(%x): %v", s, m)
		}
	})
	parts := make([]api.Measure, 0, len(long))
	for i := range len(long) {
		parts = append(parts, Of(long[i:i+1]))
	}
	if m := Add(parts...); m != Of(long) {
		t.Errorf("Of a long string: %v; that of its bytes: %v", Of(long), m)
	}
}

// P2.4: Sub undoes Add where the sum fits, and also where neither it nor the difference does.
func TestUndo(t *testing.T) {
	for _, x := range numbers {
		for _, y := range numbers {
			a, b := counts{x, 0, 0}.measure(), counts{y, 0, 0}.measure()
			sum := Add(a, b)
			if sum.Bytes < y {
				continue // ErrRange, as P2.1 requires
			}
			if m, e := Sub(sum, b); m != a || e != api.OK {
				t.Fatalf("Sub(%v, %v): %v, %d; want %v", sum, b, m, e, a)
			}
		}
	}
}

// P2.5: Rune and RunesBefore undo each other, up to the next boundary.
func TestRunesInverse(t *testing.T) {
	several(func(s string) {
		for n := range Of(s).Runes {
			if back := must(t, RunesBefore, s, must(t, Rune, s, n)); back != n {
				t.Fatalf("%x: RunesBefore of Rune(%d): %d", s, n, back)
			}
		}
		bound := len(s)
		for at := len(s); at >= 0; at-- {
			if at < len(s) && s[at]&0xc0 != 0x80 {
				bound = at
			}
			if got := must(t, Rune, s, must(t, RunesBefore, s, at)); got != bound {
				t.Fatalf("%x: Rune of RunesBefore(%d): %d; want %d", s, at, got, bound)
			}
		}
	})
}

// P2.6: Line and LineOf undo each other, down to the beginning of the line.
func TestLinesInverse(t *testing.T) {
	several(func(s string) {
		last := 0
		for n := range Of(s).Lines + 1 {
			at := must(t, Line, s, n)
			if back := must(t, LineOf, s, at); back != n {
				t.Fatalf("%x: LineOf of Line(%d): %d", s, n, back)
			}
			if at < last {
				t.Fatalf("%x: Line(%d) is %d, and the one before it %d", s, n, at, last)
			}
			last = at
		}
		last = 0
		for at := range len(s) + 1 {
			n := must(t, LineOf, s, at)
			begin := must(t, Line, s, n)
			if begin > at || strings.Contains(s[begin:at], "\n") {
				t.Fatalf("%x: Line of LineOf(%d): %d", s, at, begin)
			}
			if n < last {
				t.Fatalf("%x: LineOf(%d) is %d, and that before it %d", s, at, n, last)
			}
			last = n
		}
	})
}

// P2.7: an offset in a concatenation is one in its first part, or one in its second part behind the first one.
func TestConcatenation(t *testing.T) {
	type call struct {
		name string
		f    func(string, int) (int, api.Errno)
		of   func(m api.Measure) int // how many indices the first part answers
		skip func(m api.Measure) int // what the first part takes from the other indices
	}
	runes := func(m api.Measure) int { return m.Runes }
	lines := func(m api.Measure) int { return m.Lines }
	calls := []call{
		{"Rune", Rune, runes, runes},
		{"Line", Line, func(m api.Measure) int { return m.Lines + 1 }, lines},
	}
	all(few, 3, func(s string) {
		m := Of(s)
		all(few, 2, func(u string) {
			for _, c := range calls {
				for n := range c.skip(Of(s+u)) + 1 {
					want := 0
					if n < c.of(m) {
						want = must(t, c.f, s, n)
					} else {
						want = len(s) + must(t, c.f, u, n-c.skip(m))
					}
					if got := must(t, c.f, s+u, n); got != want {
						t.Fatalf("%s(%x + %x, %d): %d; want %d", c.name, s, u, n, got, want)
					}
				}
			}
		})
	})
}
