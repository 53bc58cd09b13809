package runes

import (
	"math"
	"slices"
	"strings"
	"testing"
	"unicode/utf8"

	"quarto/api"
)

// edges are the bytes at which the rules of UTF-8 change, on both sides.
const edges = "\x00a\x7f\x80\x8f\x90\x9f\xa0\xbf\xc0\xc1\xc2\xdf\xe0\xe1\xec\xed\xee\xef\xf0\xf1\xf3\xf4\xf5\xf7\xf8\xff"

// few has one byte of each class: for tests that look at every offset of every string.
const few = "\x00a\x80\xbf\xc3\xe2\xf0\xff"

// far are offsets that are negative or far beyond the end of any string.
var far = []int{math.MinInt, math.MinInt + 1, -1000, -2, -1, 1000, math.MaxInt - 1, math.MaxInt}

// all calls f with each string of at most n bytes of an alphabet.
func all(alphabet string, n int, f func(s string)) {
	var grow func(s []byte)
	grow = func(s []byte) {
		f(string(s))
		if len(s) == n {
			return
		}
		for i := range len(alphabet) {
			grow(append(s[:len(s):len(s)], alphabet[i]))
		}
	}
	grow(nil)
}

// offsets returns every offset of s, some around it, and the far ones.
func offsets(s string) []int {
	var out []int
	for at := -3; at <= len(s)+3; at++ {
		out = append(out, at)
	}
	return append(out, far...)
}

// bounds returns the boundaries of s by the definition of S1, in ascending order.
func bounds(s string) []int {
	var out []int
	for at := range len(s) {
		if s[at]&0xc0 != 0x80 {
			out = append(out, at)
		}
	}
	return append(out, len(s))
}

// everyRune calls f with each rune, in ascending order.
func everyRune(f func(r int)) {
	for r := range 1114112 {
		if r < 55296 || r > 57343 {
			f(r)
		}
	}
}

// P1.1, Valid: the standard library's definition of UTF-8 is the one of RFC 3629.
func TestValid(t *testing.T) {
	all(edges, 4, func(s string) {
		if got, want := Valid(s), utf8.ValidString(s); got != want {
			t.Fatalf("Valid(%x): %t; want %t", s, got, want)
		}
	})
	for s, want := range map[string]bool{
		"":                                  true,
		"plain text\nof two lines":          true,
		"\x00":                              true,
		"a\xe2\x82\xacb\xf0\x9f\x98\x80":    true,
		"\xef\xbf\xbd":                      true, // the replacement character is a rune like any other
		"\xf4\x8f\xbf\xbf":                  true,
		"\xf4\x90\x80\x80":                  false, // 1,114,112
		"\xed\x9f\xbf\xee\x80\x80":          true,
		"\xed\xa0\xbd\xed\xb8\x80":          false, // a pair of surrogates
		"\xc0\x80":                          false,
		"\xe0\x80\x80":                      false,
		"\xf0\x80\x80\x80":                  false,
		"\xf0\x8f\xbf\xbf":                  false,
		"\xf8\x88\x80\x80\x80":              false,
		"\xfc\x84\x80\x80\x80\x80":          false,
		"a\xe2\x82":                         false,
		"\xe2\x82a":                         false,
		"\xa9":                              false,
		"\xff\xfe":                          false,
		strings.Repeat("\xe2\x82\xac", 999): true,
		strings.Repeat("\xe2\x82\xac", 999) + "\x82": false,
	} {
		if got := Valid(s); got != want {
			t.Errorf("Valid(%x): %t; want %t", s, got, want)
		}
	}
}

// P1.1, Boundary.
func TestBoundary(t *testing.T) {
	all(few, 4, func(s string) {
		want := bounds(s)
		for _, at := range offsets(s) {
			if got := Boundary(s, at); got != slices.Contains(want, at) {
				t.Fatalf("Boundary(%x, %d): %t; want %t", s, at, got, !got)
			}
		}
	})
	for b := range 256 {
		if got, want := Boundary(string([]byte{byte(b)}), 0), b < 128 || b > 191; got != want {
			t.Errorf("Boundary of byte %d at 0: %t; want %t", b, got, want)
		}
	}
	for at, want := range map[int]bool{1: true, 2: false, 4: true, 5: false} {
		if got := Boundary("a\xe2\x82\xac", at); got != want {
			t.Errorf("Boundary at %d: %t; want %t", at, got, want)
		}
	}
}

// P1.1, Count.
func TestCount(t *testing.T) {
	all(edges, 3, func(s string) {
		want := 0
		for i := range len(s) {
			if s[i] < 128 || s[i] > 191 {
				want++
			}
		}
		if got := Count(s); got != want {
			t.Fatalf("Count(%x): %d; want %d", s, got, want)
		}
	})
	for s, want := range map[string]int{
		"":                 0,
		"\x82a\xe2\x82":    2,
		"\x80\x80\x80":     0,
		"\xff\xfe":         2,
		"a\xe2\x82\xac\nb": 4,
	} {
		if got := Count(s); got != want {
			t.Errorf("Count(%x): %d; want %d", s, got, want)
		}
	}
}

// P1.2, Decode, against the standard library.
func TestDecode(t *testing.T) {
	all(edges, 4, func(s string) {
		got, size, e := Decode(s)
		r, n := utf8.DecodeRuneInString(s)
		want, fail := int(r), api.OK
		if n == 0 {
			want, fail = 0, api.ErrRange
		} else if r == utf8.RuneError && n == 1 {
			want, n, fail = 0, 0, api.ErrUTF8
		}
		if got != want || size != n || e != fail {
			t.Fatalf("Decode(%x): %d, %d, %d; want %d, %d, %d", s, got, size, e, want, n, fail)
		}
	})
}

// P1.2, Decode: the examples, and the ends of each range.
func TestDecodeExamples(t *testing.T) {
	for _, x := range []struct {
		s       string
		r, size int
		e       api.Errno
	}{
		{"\xe2\x82\xaca", 8364, 3, api.OK},
		{"a\xff", 97, 1, api.OK},
		{"\x00", 0, 1, api.OK},
		{"\x7f", 127, 1, api.OK},
		{"\xc2\x80", 128, 2, api.OK},
		{"\xdf\xbf", 2047, 2, api.OK},
		{"\xe0\xa0\x80", 2048, 3, api.OK},
		{"\xed\x9f\xbf", 55295, 3, api.OK},
		{"\xee\x80\x80", 57344, 3, api.OK},
		{"\xef\xbf\xbd", 65533, 3, api.OK},
		{"\xef\xbf\xbf", 65535, 3, api.OK},
		{"\xf0\x90\x80\x80", 65536, 4, api.OK},
		{"\xf4\x8f\xbf\xbf", 1114111, 4, api.OK},
		{"", 0, 0, api.ErrRange},
		{"\xe2\x82", 0, 0, api.ErrUTF8},
		{"\xed\xa0\x80", 0, 0, api.ErrUTF8},
		{"\xed\xbf\xbf", 0, 0, api.ErrUTF8},
		{"\xc0\x80", 0, 0, api.ErrUTF8},
		{"\xc1\xbf", 0, 0, api.ErrUTF8},
		{"\xe0\x9f\xbf", 0, 0, api.ErrUTF8},
		{"\xf0\x8f\xbf\xbf", 0, 0, api.ErrUTF8},
		{"\xf4\x90\x80\x80", 0, 0, api.ErrUTF8},
		{"\xf5\x80\x80\x80", 0, 0, api.ErrUTF8},
		{"\xf8\x88\x80\x80\x80", 0, 0, api.ErrUTF8},
		{"\xff", 0, 0, api.ErrUTF8},
		{"\x82", 0, 0, api.ErrUTF8},
		{"\x82a", 0, 0, api.ErrUTF8},
		{"\xe2a\xac", 0, 0, api.ErrUTF8},
		{"\xe2\x82\xc3", 0, 0, api.ErrUTF8},
	} {
		if r, size, e := Decode(x.s); r != x.r || size != x.size || e != x.e {
			t.Errorf("Decode(%x): %d, %d, %d; want %d, %d, %d", x.s, r, size, e, x.r, x.size, x.e)
		}
	}
}

// P1.2, Encode.
func TestEncode(t *testing.T) {
	everyRune(func(r int) {
		if s, e := Encode(r); e != api.OK || s != string(rune(r)) {
			t.Fatalf("Encode(%d): %x, %d; want %x", r, s, e, string(rune(r)))
		}
	})
	if s, e := Encode(8364); s != "\xe2\x82\xac" || e != api.OK {
		t.Errorf("Encode(8364): %x, %d", s, e)
	}
	bad := []int{math.MinInt, -1114111, -97, -1, 1114112, 1 << 21, 1 << 32, 1<<32 + 97, math.MaxInt}
	for r := 55296; r <= 57343; r++ {
		bad = append(bad, r)
	}
	for _, r := range bad {
		if s, e := Encode(r); s != "" || e != api.ErrArg {
			t.Errorf("Encode(%d): %x, %d; want ErrArg", r, s, e)
		}
	}
}

// P1.3, Next and Prev.
func TestNextPrev(t *testing.T) {
	all(few, 4, func(s string) {
		for _, at := range offsets(s) {
			next, hasNext, prev, hasPrev := 0, false, 0, false
			for _, b := range bounds(s) {
				if b > at && !hasNext {
					next, hasNext = b, true
				}
				if b < at {
					prev, hasPrev = b, true
				}
			}
			if got, has := Next(s, at); got != next || has != hasNext {
				t.Fatalf("Next(%x, %d): %d, %t; want %d, %t", s, at, got, has, next, hasNext)
			}
			if got, has := Prev(s, at); got != prev || has != hasPrev {
				t.Fatalf("Prev(%x, %d): %d, %t; want %d, %t", s, at, got, has, prev, hasPrev)
			}
		}
	})
}

// P1.3, Next and Prev: the examples.
func TestNextPrevExamples(t *testing.T) {
	type call struct {
		s    string
		at   int
		want int
		has  bool
	}
	s := "a\xe2\x82\xac"
	for _, x := range []call{{s, -1, 0, true}, {s, 0, 1, true}, {s, 1, 4, true}, {s, 4, 0, false}, {"", -1, 0, true}, {"", 0, 0, false}, {"\x82", -1, 1, true}} {
		if at, has := Next(x.s, x.at); at != x.want || has != x.has {
			t.Errorf("Next(%x, %d): %d, %t; want %d, %t", x.s, x.at, at, has, x.want, x.has)
		}
	}
	for _, x := range []call{{"\x82a", 9, 2, true}, {"\x82a", 2, 1, true}, {"\x82a", 1, 0, false}, {"", 1, 0, true}, {"", 0, 0, false}, {s, 4, 1, true}, {s, 1, 0, true}} {
		if at, has := Prev(x.s, x.at); at != x.want || has != x.has {
			t.Errorf("Prev(%x, %d): %d, %t; want %d, %t", x.s, x.at, at, has, x.want, x.has)
		}
	}
}

// P1.3, Clip.
func TestClip(t *testing.T) {
	all(few, 4, func(s string) {
		for _, n := range offsets(s) {
			want := ""
			for _, b := range bounds(s) {
				if b <= n {
					want = s[:b]
				}
			}
			if got := Clip(s, n); got != want {
				t.Fatalf("Clip(%x, %d): %x; want %x", s, n, got, want)
			}
		}
	})
	s := "a\xe2\x82\xac"
	for n, want := range map[int]string{-1: "", 0: "", 1: "a", 3: "a", 4: s, 5: s} {
		if got := Clip(s, n); got != want {
			t.Errorf("Clip(%x, %d): %x; want %x", s, n, got, want)
		}
	}
	if got := Clip("\x82a", 0) + Clip("", 5); got != "" {
		t.Errorf("Clip of a string that has no boundary at most n: %x", got)
	}
}

// P1.4: decoding inverts encoding, whatever follows, and encoding inverts decoding.
func TestRoundTrip(t *testing.T) {
	everyRune(func(r int) {
		s, _ := Encode(r)
		for _, rest := range []string{"", "a", "\x80", "\xff", s} {
			got, size, e := Decode(s + rest)
			if got != r || size != len(s) || e != api.OK {
				t.Fatalf("Decode(%x): %d, %d, %d; want %d, %d", s+rest, got, size, e, r, len(s))
			}
		}
	})
	all(edges, 4, func(s string) {
		r, size, e := Decode(s)
		if e != api.OK {
			return
		}
		if again, e := Encode(r); again != s[:size] || e != api.OK {
			t.Fatalf("Encode(%d): %x, %d; want %x", r, again, e, s[:size])
		}
	})
}

// ups returns the boundaries that Next visits from at on, and downs those that Prev visits.
func ups(s string, at int) []int {
	var out []int
	for at, has := Next(s, at); has; at, has = Next(s, at) {
		out = append(out, at)
	}
	return out
}

func downs(s string, at int) []int {
	var out []int
	for at, has := Prev(s, at); has; at, has = Prev(s, at) {
		out = append(out, at)
	}
	return out
}

// P1.5: both directions visit the same boundaries, one more than Count; Decode visits them in valid strings.
func TestVisits(t *testing.T) {
	all(few, 5, func(s string) {
		up, down := ups(s, -1), downs(s, len(s)+1)
		slices.Reverse(down)
		if !slices.IsSorted(up) || !slices.Equal(up, down) || !slices.Equal(up, bounds(s)) {
			t.Fatalf("boundaries of %x: %v up, %v down; want %v", s, up, down, bounds(s))
		}
		if len(up) != Count(s)+1 {
			t.Fatalf("%x has %d boundaries and Count %d", s, len(up), Count(s))
		}
	})
	long := strings.Repeat("a\xc3\xa9\xe2\x82\xac\xf0\x9f\x98\x80\n", 200)
	for _, s := range []string{"", "a", "\xe2\x82\xac", long} {
		up := ups(s, -1)
		for i, at := range up[:len(up)-1] {
			if _, size, e := Decode(s[at:]); e != api.OK || at+size != up[i+1] {
				t.Fatalf("Decode at %d leads to %d, error %d; want %d", at, at+size, e, up[i+1])
			}
		}
		if len(up) != Count(s)+1 || up[len(up)-1] != len(s) {
			t.Fatalf("the boundaries of %x end with %d", s, up[len(up)-1])
		}
	}
}

// P1.6: concatenations and parts of valid strings.
func TestParts(t *testing.T) {
	parts := []string{"", "a", "\x00\n", "\xc3\xa9", "\xe2\x82\xac", "\xed\x9f\xbf", "\xf0\x9f\x98\x80", "\xf4\x8f\xbf\xbf", "x\xc2\x80y\xef\xbf\xbd"}
	for _, a := range parts {
		for _, b := range parts {
			for _, c := range parts {
				s := a + b + c
				if !Valid(s) {
					t.Fatalf("%x is not valid", s)
				}
				for at := range len(s) + 1 {
					is := Boundary(s, at)
					if Valid(s[:at]) != is || Valid(s[at:]) != is {
						t.Fatalf("%x cut at %d: %t, %t; want both %t", s, at, Valid(s[:at]), Valid(s[at:]), is)
					}
				}
			}
		}
	}
}

// P1.7: the order of neighbours is enough, as is that none of two neighbours is a prefix: a string that lies between another one and one that this is a prefix of begins with it too.
func TestOrder(t *testing.T) {
	last := ""
	everyRune(func(r int) {
		s, _ := Encode(r)
		if r > 0 && (last >= s || strings.HasPrefix(s, last) || strings.HasPrefix(last, s)) {
			t.Fatalf("the encoding of %d is %x, and that of the rune before it %x", r, s, last)
		}
		last = s
	})
}
