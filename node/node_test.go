package node_test

import (
	"math"
	"math/rand"
	"slices"
	"strings"
	"testing"

	"quarto/api"
	"quarto/node"
)

// The examples of the chapter.
func TestExamples(t *testing.T) {
	x := example()
	isCheck(t, x, api.OK)
	if m, e := node.Measure(x); m != (api.Measure{Bytes: 27, Runes: 18, Lines: 3}) || e != api.OK {
		t.Fatalf("Measure(%s): %v, %d", show(x), m, e)
	}
	isCheck(t, api.Node{}, api.ErrShape)
	isCheck(t, api.Node{Height: 1, Kids: x.Kids[:1]}, api.ErrShape)
	for _, c := range []struct {
		at, i, rest int
		e           api.Errno
	}{{0, 0, 0, api.OK}, {8, 0, 8, api.OK}, {9, 1, 0, api.OK}, {26, 2, 9, api.OK}, {27, 0, 0, api.ErrRange}, {-1, 0, 0, api.ErrRange}} {
		isChild(t, x, c.at, c.i, c.rest, c.e)
	}
	isRune(t, x, 7, 0, 7, api.OK)
	isRune(t, x, 8, 2, 0, api.OK)
	isRune(t, x, 18, 0, 0, api.ErrRange)
	for _, c := range []struct {
		n, i, rest int
		e          api.Errno
	}{{1, 0, 1, api.OK}, {2, 2, 1, api.OK}, {3, 2, 2, api.OK}, {0, 0, 0, api.ErrRange}, {4, 0, 0, api.ErrRange}} {
		isLine(t, x, c.n, c.i, c.rest, c.e)
	}
	ab := api.Node{Text: "ab"}
	isCheck(t, ab, api.OK)
	isEncode(t, ab, "\x00ab", api.OK)
	isDecode(t, "\x00", api.Node{}, api.ErrForm)
	isDecode(t, "\x00ab", ab, api.OK)
	isChild(t, ab, 0, 0, 0, api.ErrState)
	isEncode(t, x, unhex("01; 00 00 00 01 00 00, 00 09, 00 08, 00 01; 00 00 00 01 00 01, 00 08, 00 00, 00 00; 00 00 00 01 00 02, 00 0A, 00 0A, 00 02"), api.OK)
}

// P12.1, Check, and P12.2, Leaf and Measure: leaves of all sorts.
func TestLeaves(t *testing.T) {
	for _, x := range leaves() {
		isCheck(t, x, checked(x))
	}
	for _, text := range []string{"a", "\n", "\xff", "\x80", "0123456789abcdef", "\x80\xff\x80\xff\x80\xff\x80\xff\x80\xff\x80\xff\x80\xff\x80\xff"} {
		isCheck(t, api.Node{Text: text}, api.OK)
		isCheck(t, api.Node{Text: text, Kids: []api.Kid{}}, api.OK)
		isCheck(t, api.Node{Text: text, Kids: example().Kids}, api.ErrShape)
		isCheck(t, api.Node{Text: text, Kids: make([]api.Kid, 1)}, api.ErrShape)
	}
	isCheck(t, api.Node{Text: ""}, api.ErrShape)
	isCheck(t, api.Node{Kids: []api.Kid{}}, api.ErrShape)
	isCheck(t, api.Node{Kids: example().Kids}, api.ErrShape)
	isCheck(t, api.Node{Text: "0123456789abcdefg"}, api.ErrShape)
	isCheck(t, api.Node{Text: strings.Repeat("x", 65537)}, api.ErrShape)
}

// P12.2, Leaf and Measure: the parts of what is returned, and the measures of texts that are no valid UTF-8.
func TestLeaf(t *testing.T) {
	for _, c := range []struct {
		text string
		m    api.Measure
	}{
		{"ab", api.Measure{Bytes: 2, Runes: 2}}, {"\n", api.Measure{Bytes: 1, Runes: 1, Lines: 1}}, {"a\n\xe2\x82\xac\n", api.Measure{Bytes: 6, Runes: 4, Lines: 2}},
		{"\x80", api.Measure{Bytes: 1}}, {"\xff\xff", api.Measure{Bytes: 2, Runes: 2}}, {"\x80\n\xbf\xc0", api.Measure{Bytes: 4, Runes: 2, Lines: 1}},
		{"0123456789abcdef", api.Measure{Bytes: 16, Runes: 16}}, {strings.Repeat("\n", 16), api.Measure{Bytes: 16, Runes: 16, Lines: 16}},
	} {
		x, e := node.Leaf(c.text)
		if x.Height != 0 || x.Text != c.text || len(x.Kids) != 0 || e != api.OK {
			t.Fatalf("Leaf(%q): %s, %d", c.text, show(x), e)
		}
		if m, e := node.Measure(x); m != c.m || e != api.OK {
			t.Fatalf("Measure of the leaf %q: %v, %d; want %v", c.text, m, e, c.m)
		}
	}
}

// P12.1, Check, and P12.2, Inner and Measure: inner nodes of all sorts, and numbers that are no heights.
func TestInners(t *testing.T) {
	for _, x := range inners() {
		isCheck(t, x, checked(x))
	}
}

// P12.1: the numbers of children at the limits, and a text beside them.
func TestNumberOfKids(t *testing.T) {
	for height := 1; height <= 13; height++ {
		for n := 2; n <= 4; n++ {
			want := api.OK
			if n*leastBytes[height-1] > 65536 {
				want = api.ErrLong
			}
			isCheck(t, least(height, n), want)
			isCheck(t, api.Node{Height: height, Text: "a", Kids: least(height, n).Kids}, api.ErrShape)
		}
		for _, n := range []int{0, 1, 5, 6, 8, 16, 1000} {
			isCheck(t, least(height, n), api.ErrShape)
		}
	}
	isCheck(t, inner(1), api.ErrShape)
	isCheck(t, inner(1, 8), api.ErrShape)
	isCheck(t, inner(1, 8, 8), api.OK)
	isCheck(t, inner(1, 8, 8, 8, 8), api.OK)
	isCheck(t, inner(1, 8, 8, 8, 8, 8), api.ErrShape)
}

// P12.1: the least and the greatest bytes of a child at each height, one less and one more.
func TestBytesOfKids(t *testing.T) {
	for height := 1; height <= 14; height++ {
		low, high := leastBytes[height-1], mostBytes[height-1]
		for i := range 2 {
			for _, c := range []struct {
				bytes int
				want  api.Errno
			}{{low - 1, api.ErrShape}, {low, api.OK}, {high, api.OK}, {high + 1, api.ErrShape}} {
				x := inner(height, low, low)
				x.Kids[i].M = api.Measure{Bytes: c.bytes}
				if c.want == api.OK && low+c.bytes > 65536 {
					c.want = api.ErrLong
				}
				isCheck(t, x, c.want)
			}
		}
	}
	isCheck(t, inner(1, 7, 8), api.ErrShape)
	isCheck(t, inner(1, 8, 16), api.OK)
	isCheck(t, inner(1, 17, 8), api.ErrShape)
	isCheck(t, inner(2, 16, 64), api.OK)
	isCheck(t, inner(2, 16, 65), api.ErrShape)
	isCheck(t, inner(7, 512, 65024), api.OK)
	isCheck(t, inner(7, 512, 65536), api.ErrLong)
	isCheck(t, inner(7, 512, 65537), api.ErrShape)
}

// P12.1: the greatest heights, at which the least bytes of two children are as many as MaxText, more than it, or more than a child may have.
func TestGreatHeights(t *testing.T) {
	isCheck(t, inner(13, 32768, 32768), api.OK)
	isCheck(t, inner(13, 32768, 32767), api.ErrShape)
	isCheck(t, inner(13, 32768, 32769), api.ErrLong)
	isCheck(t, inner(13, 32768, 32768, 32768), api.ErrLong)
	isCheck(t, inner(14, 65536, 65536), api.ErrLong)
	isCheck(t, inner(14, 65536, 65535), api.ErrShape)
	isCheck(t, inner(14, 65536, 65537), api.ErrShape)
	for height := 15; height <= 17; height++ {
		for _, n := range []int{0, 8, 65535, 65536, 65537, 131072, 262144, 524288, 1 << 34, math.MaxInt} {
			isCheck(t, inner(height, n, n), api.ErrShape)
		}
	}
	for _, height := range []int{math.MinInt, -1, 0, 17, 257, 1<<32 + 1, math.MaxInt} {
		isCheck(t, inner(height, 8, 8), api.ErrShape)
	}
}

// P12.1: the runes and the lines of a child.
func TestRunesAndLinesOfKids(t *testing.T) {
	for _, c := range []struct {
		runes, lines int
		want         api.Errno
	}{
		{0, 0, api.OK}, {1, 0, api.OK}, {8, 0, api.OK}, {9, 0, api.OK}, {10, 0, api.ErrShape}, {-1, 0, api.ErrShape}, {-1, -1, api.ErrShape}, {math.MaxInt, 0, api.ErrShape}, {math.MinInt, 0, api.ErrShape},
		{0, 1, api.ErrShape}, {0, -1, api.ErrShape}, {5, 4, api.OK}, {5, 5, api.OK}, {5, 6, api.ErrShape}, {9, 9, api.OK}, {9, 10, api.ErrShape}, {9, -1, api.ErrShape}, {10, 10, api.ErrShape},
		{9, math.MaxInt, api.ErrShape}, {9, math.MinInt, api.ErrShape}, {0, math.MinInt, api.ErrShape},
	} {
		for i := range 3 {
			isCheck(t, with(example(), i, kid(9, 9, c.runes, c.lines)), c.want)
		}
	}
}

// P12.1: valid handles, which need not be different, and numbers that are not.
func TestHandlesOfKids(t *testing.T) {
	for i := range 3 {
		for _, at := range numbers() {
			x := example()
			x.Kids[i].At = at
			if isHandle(at) {
				isCheck(t, x, api.OK)
			} else {
				isCheck(t, x, api.ErrShape)
			}
		}
	}
	x := example()
	for i := range x.Kids {
		x.Kids[i].At = 65536
	}
	isCheck(t, x, api.OK)
	for _, at := range []api.Handle{0, 1, 65535, 65536 + 16384, 1 << 48, 1<<48 + 65536, math.MaxUint64} {
		x.Kids[2].At = at
		isCheck(t, x, api.ErrShape)
	}
}

// P12.1: nodes of MaxText bytes, one less and one more.
func TestFull(t *testing.T) {
	for _, x := range fulls() {
		isCheck(t, x, checked(x))
		isFound(t, x, 65535)
		isFound(t, x, 65536)
	}
	isCheck(t, inner(6, 16384, 16384, 16384, 16384), api.OK)
	isCheck(t, inner(7, 16384, 16384, 16384, 16384), api.OK)
	isCheck(t, inner(7, 16384, 16384, 16384, 16385), api.ErrLong)
	isCheck(t, inner(7, 65536, 65536, 65536, 65536), api.ErrLong)
	isCheck(t, inner(12, 16384, 49152), api.OK)
	isCheck(t, inner(12, 49153, 16384), api.ErrLong)
}

// P12.1 and P12.2: numbers whose sums would wrap around to sums of valid nodes.
func TestGreatNumbers(t *testing.T) {
	for _, l := range [][]int{
		{math.MaxInt, math.MaxInt, 18}, {math.MaxInt, math.MaxInt, 9, 9}, {1 << 62, 1 << 62, 1 << 62, 1 << 62}, {1 << 63 >> 1, 1 << 62, math.MinInt, 16}, {math.MinInt, math.MinInt, 8, 8},
		{math.MinInt, math.MinInt}, {math.MaxInt, math.MinInt, 17}, {-8, 24}, {32, -16}, {1 << 32, 8}, {1<<32 + 8, 8}, {1<<63 - 1, 9},
	} {
		for height := range 17 {
			x := inner(height, l...)
			isCheck(t, x, api.ErrShape)
			isFound(t, x, 0)
			isEncode(t, x, "", api.ErrShape)
			for i := range x.Kids {
				x.Kids[i].M = api.Measure{Bytes: 8, Runes: l[i], Lines: 0}
			}
			isCheck(t, x, api.ErrShape)
			isFound(t, x, 1)
			for i := range x.Kids {
				x.Kids[i].M = api.Measure{Bytes: 8, Runes: 8, Lines: l[i]}
			}
			isCheck(t, x, api.ErrShape)
		}
	}
}

// P12.1 and P12.2: a node that is not well formed and too long is told to be not well formed, wherever that shows.
func TestShapeBeforeLong(t *testing.T) {
	isCheck(t, inner(7, 65536, 65536, 65536), api.ErrLong)
	isCheck(t, api.Node{Height: 7, Text: "a", Kids: inner(7, 65536, 65536).Kids}, api.ErrShape)
	isCheck(t, inner(7, 65536, 65536, 65536, 65536, 65536), api.ErrShape)
	for _, height := range []int{-7, 0, 6, 15, 16, 17} {
		isCheck(t, inner(height, 65536, 65536, 65536), api.ErrShape)
	}
	for i := range 3 {
		for _, k := range []api.Kid{{At: 0, M: api.Measure{Bytes: 65536}}, kid(0, 511, 0, 0), kid(0, 65537, 0, 0), kid(0, 65536, 65537, 0), kid(0, 65536, -1, 0), kid(0, 65536, 5, 6), kid(0, 65536, 5, -1)} {
			isCheck(t, with(inner(7, 65536, 65536, 65536), i, k), api.ErrShape)
		}
	}
}

// P12.2, Inner: the parts of what is returned, and a list of children that is given one by one.
func TestInner(t *testing.T) {
	k := example().Kids
	for _, height := range []int{1, 2, 7} {
		a, b := kid(5, 512, 300, 2), kid(16383, 512, 0, 0)
		if height < 7 {
			a, b = kid(5, 16, 16, 16), kid(16383, 16, 0, 0)
		}
		x, e := node.Inner(height, a, b)
		if x.Height != height || x.Text != "" || !slices.Equal(x.Kids, []api.Kid{a, b}) || e != api.OK {
			t.Fatalf("Inner(%d, %v, %v): %s, %d", height, a, b, show(x), e)
		}
	}
	if x, e := node.Inner(1, k[:2]...); !slices.Equal(x.Kids, example().Kids[:2]) || e != api.OK {
		t.Fatalf("Inner of the first two children: %s, %d", show(x), e)
	}
	for _, height := range heights() {
		if x, e := node.Inner(height); !same(x, api.Node{}) || e != api.ErrShape {
			t.Fatalf("Inner(%d) without children: %s, %d", height, show(x), e)
		}
	}
	if x, e := node.Inner(7, inner(7, 512, 65025).Kids...); !same(x, api.Node{}) || e != api.ErrLong {
		t.Fatalf("Inner of too many bytes: %s, %d", show(x), e)
	}
}

// places calls f with the number, the child and the number in it of every unit of x.
func places(x api.Node, first int, of count, f func(n, i, rest int)) {
	n := first
	for i, k := range x.Kids {
		for rest := range of(k.M) {
			f(n, i, first+rest)
			n++
		}
	}
}

// isFoundEverywhere checks Child, Rune and Line for all numbers that exist, one after the other, and for some that do not.
func isFoundEverywhere(t *testing.T, x api.Node) {
	t.Helper()
	places(x, 0, countBytes, func(n, i, rest int) { isChild(t, x, n, i, rest, api.OK) })
	places(x, 0, countRunes, func(n, i, rest int) { isRune(t, x, n, i, rest, api.OK) })
	places(x, 1, countLines, func(n, i, rest int) { isLine(t, x, n, i, rest, api.OK) })
	sum := measured(x)
	for _, n := range append(ends(), -1) {
		isChild(t, x, n, 0, 0, api.ErrRange)
		isRune(t, x, n, 0, 0, api.ErrRange)
		isLine(t, x, n, 0, 0, api.ErrRange)
	}
	for more := range 3 {
		isChild(t, x, sum.Bytes+more, 0, 0, api.ErrRange)
		isRune(t, x, sum.Runes+more, 0, 0, api.ErrRange)
		isLine(t, x, sum.Lines+1+more, 0, 0, api.ErrRange)
	}
	isLine(t, x, 0, 0, 0, api.ErrRange)
}

// P12.3 to P12.5: all bytes, runes and line feeds of nodes of all heights, with children that have none.
func TestFind(t *testing.T) {
	isFoundEverywhere(t, example())
	for height := 1; height <= 13; height++ {
		for n := 2; n <= 4; n++ {
			if x := least(height, n); checked(x) == api.OK {
				isFoundEverywhere(t, x)
			}
		}
	}
	for _, x := range []api.Node{inner(1, 16, 8, 12), inner(6, 16384, 16384, 16384, 16384), inner(7, 512, 65024), inner(7, 65024, 512), inner(12, 16384, 49152)} {
		isFoundEverywhere(t, x)
		for i := range x.Kids {
			x.Kids[i].M.Lines = x.Kids[i].M.Runes
		}
		isFoundEverywhere(t, x)
	}
	r := rand.New(rand.NewSource(12))
	for range 2000 {
		isFoundEverywhere(t, small(r))
	}
}

// P12.4 and P12.5: all ways in which the children have runes, or line feeds, or none.
func TestFindBesideNone(t *testing.T) {
	for n := 2; n <= 4; n++ {
		for set := range 1 << n {
			runes, lines := inner(1, slices.Repeat([]int{9}, n)...), inner(1, slices.Repeat([]int{9}, n)...)
			for i := range n {
				has := set >> i & 1
				runes.Kids[i].M = api.Measure{Bytes: 9, Runes: has * (i + 1)}
				lines.Kids[i].M = api.Measure{Bytes: 9, Runes: 9, Lines: has * (i + 2)}
			}
			isFoundEverywhere(t, runes)
			isFoundEverywhere(t, lines)
		}
	}
}

// P12.3 to P12.5: all nodes, those among them that are leaves or not valid, and the first and last numbers.
func TestFindInAll(t *testing.T) {
	for _, x := range all() {
		for _, n := range []int{math.MinInt, -1, 0, 1, 2, 8, 9, 65535, 65536, math.MaxInt} {
			isFound(t, x, n)
		}
		if checked(x) != api.OK {
			continue
		}
		sum := measured(x)
		for _, last := range []int{sum.Bytes, sum.Runes, sum.Lines, measured(api.Node{Kids: x.Kids[:len(x.Kids)/2]}).Bytes} {
			for n := last - 2; n <= last+2; n++ {
				isFound(t, x, n)
			}
		}
	}
}

// P12.3 to P12.5: which error is returned where several would fit.
func TestFindErrors(t *testing.T) {
	for _, n := range append(ends(), -1, 0, 1, 2, 3) {
		for _, c := range []struct {
			x    api.Node
			want api.Errno
		}{
			{api.Node{}, api.ErrShape}, {api.Node{Text: "0123456789abcdefg"}, api.ErrShape}, {api.Node{Text: "a", Kids: example().Kids}, api.ErrShape}, {api.Node{Kids: example().Kids}, api.ErrShape},
			{inner(1, 8), api.ErrShape}, {inner(1, 8, 17), api.ErrShape}, {inner(7, 65536, 65536), api.ErrLong}, {inner(14, 65536, 65536), api.ErrLong}, {inner(15, 65536, 65536), api.ErrShape},
			{api.Node{Text: "ab\n"}, api.ErrState}, {api.Node{Text: "\n\n\n\n", Kids: []api.Kid{}}, api.ErrState}, {api.Node{Text: "\x80"}, api.ErrState},
		} {
			isChild(t, c.x, n, 0, 0, c.want)
			isRune(t, c.x, n, 0, 0, c.want)
			isLine(t, c.x, n, 0, 0, c.want)
		}
	}
	none := api.Node{Height: 1, Kids: []api.Kid{kid(0, 8, 0, 0), kid(1, 8, 0, 0)}}
	for n := -1; n <= 16; n++ {
		isRune(t, none, n, 0, 0, api.ErrRange)
		isLine(t, none, n, 0, 0, api.ErrRange)
	}
}

// P12.6, Encode: all nodes, valid and not, and Decode of what was encoded.
func TestEncode(t *testing.T) {
	for _, x := range all() {
		if e := checked(x); e != api.OK {
			isEncode(t, x, "", e)
		} else {
			isEncode(t, x, encoding(x), api.OK)
		}
	}
	r := rand.New(rand.NewSource(126))
	for range 1000 {
		x := small(r)
		isEncode(t, x, encoding(x), api.OK)
	}
	isEncode(t, api.Node{Text: "a", Kids: []api.Kid{}}, "\x00a", api.OK)
	isEncode(t, inner(7, 65536, 65536), "", api.ErrLong)
	great := api.Node{Height: 13, Kids: []api.Kid{
		{At: made(16383, 4294967295), M: api.Measure{Bytes: 32768, Runes: 32768, Lines: 32767}}, {At: made(0x1234, 0x56789abc), M: api.Measure{Bytes: 0x8000, Runes: 0x7654, Lines: 0x3210}},
	}}
	isEncode(t, great, unhex("0D; FF FF FF FF 3F FF, 80 00, 80 00, 7F FF; 56 78 9A BC 12 34, 80 00, 76 54, 32 10"), api.OK)
	greatest := inner(7, 65024, 512)
	isEncode(t, greatest, unhex("07; 00 00 00 01 00 00, FE 00, FE 00, 00 00; 00 00 00 01 00 01, 02 00, 02 00, 00 00"), api.OK)
}

// samples are encodings of leaves and of inner nodes, with numbers of all lengths.
func samples() []string {
	l := []string{"\x00a", "\x00ab\n", "\x000123456789abcdef", encoding(example()), encoding(inner(1, 8, 16)), encoding(inner(1, 16, 8, 8, 9)), encoding(inner(6, 16384, 16384, 16384, 16384)), encoding(inner(13, 32768, 32768))}
	return append(l, encoding(api.Node{Height: 7, Kids: []api.Kid{
		{At: made(16383, 4294967295), M: api.Measure{Bytes: 65024, Runes: 65024, Lines: 65024}}, {At: made(0, 256), M: api.Measure{Bytes: 512}},
	}}))
}

// isDecoded checks Decode against its definition.
func isDecoded(t *testing.T, s string) {
	t.Helper()
	x, e := decoded(s)
	isDecode(t, s, x, e)
}

// P12.6, Decode: the ways in which a string is no encoding.
func TestDecodeErrors(t *testing.T) {
	x, head := encoding(inner(1, 8, 8, 8, 8)), encoding(inner(1, 8, 8))
	for _, s := range []string{
		"", "\x00", "\x01", "\x02", "\x10", "\x11", "\xff", "a", "\x00" + strings.Repeat("a", 17), "\x00" + strings.Repeat("a", 48), "\x00" + x[1:], "\x00" + head[1:], "\x01a", "\x01ab", "\x010123456789abcdef",
		x[:13], x[:24], x[:26], x[:48], x + "a", x + x[1:13], x + "\x00", head + "\x00", head + "a", head + x[1:12], x + x, "\x00" + x, x[1:], "\x01" + strings.Repeat(x[1:13], 5), "\x01" + strings.Repeat(x[1:13], 1000),
		"\x02" + x[1:], "\x0e" + x[1:], "\x10" + x[1:], "\x11" + x[1:], "\x81" + x[1:], "\xff" + x[1:], "\x00" + strings.Repeat("a", 70000),
		encoding(inner(1, 7, 8)), encoding(inner(1, 8, 17)), encoding(inner(2, 16, 65)), encoding(inner(7, 512, 65025)), encoding(inner(7, 65535, 65535)), encoding(inner(14, 65535, 65535)),
		encoding(with(example(), 1, kid(1, 8, 9, 0))), encoding(with(example(), 1, kid(1, 8, 0, 1))), encoding(with(example(), 2, kid(1, 8, 5, 6))),
		encoding(with(example(), 0, kid(16384, 8, 0, 0))), encoding(with(example(), 0, api.Kid{At: 3, M: api.Measure{Bytes: 8}})), encoding(with(example(), 2, api.Kid{M: api.Measure{Bytes: 8}})),
		unhex("01; 00 00 00 01 00 00, 00 09, 00 08, 00 01; 00 00 00 01 00 01, 00 08, 00 00, 00 00; 00 00 00 01 00 02, 00 0A, 00 0A, 00"),
	} {
		isDecode(t, s, api.Node{}, api.ErrForm)
		isDecoded(t, s)
	}
}

// P12.6, Decode: leaves, with texts of all lengths and all bytes.
func TestDecodeLeaves(t *testing.T) {
	for _, text := range texts() {
		isDecoded(t, "\x00"+text)
		isDecoded(t, "\x01"+text)
		isDecoded(t, text)
	}
	isDecode(t, "\x00\x00", api.Node{Text: "\x00"}, api.OK)
	isDecode(t, "\x000123456789abcdef", api.Node{Text: "0123456789abcdef"}, api.OK)
}

// P12.6, Decode: all strings of at most two bytes.
func TestDecodeShort(t *testing.T) {
	isDecoded(t, "")
	for a := range 256 {
		isDecoded(t, string([]byte{byte(a)}))
		for b := range 256 {
			isDecoded(t, string([]byte{byte(a), byte(b)}))
		}
	}
}

// P12.6, Decode: encodings in which one byte is another one, is missing, or is there twice; their beginnings and ends, and longer strings.
func TestDecodeChanged(t *testing.T) {
	for _, s := range samples() {
		isDecoded(t, s)
		for at := range s {
			for b := range 256 {
				isDecoded(t, s[:at]+string([]byte{byte(b)})+s[at+1:])
			}
			isDecoded(t, s[:at]+s[at+1:])
			isDecoded(t, s[:at+1]+s[at:])
			isDecoded(t, s[:at])
			isDecoded(t, s[at:])
			isDecoded(t, s+s[:at])
			isDecoded(t, s+s[at:])
		}
	}
}

// P12.6, Decode: children in all numbers at all heights, and numbers of two bytes at the ends of what is allowed.
func TestDecodeInners(t *testing.T) {
	for height := range 256 {
		for n := range 7 {
			for _, bytes := range []int{8, 16, 1024, 16384, 32768, 65535} {
				isDecoded(t, encoding(inner(height, slices.Repeat([]int{bytes}, n)...)))
			}
		}
	}
	for _, bytes := range []int{0, 7, 8, 9, 15, 16, 17, 255, 256, 65535} {
		for _, runes := range []int{0, 1, 8, 9, 15, 16, 17, 256, 65535} {
			for _, lines := range []int{0, 1, 8, 9, 15, 16, 17, 256, 65535} {
				isDecoded(t, encoding(with(example(), 1, kid(1, bytes, runes, lines))))
			}
		}
	}
	for _, at := range numbers() {
		if at < 1<<48 {
			isDecoded(t, encoding(with(example(), 2, api.Kid{At: at, M: api.Measure{Bytes: 8}})))
		}
	}
}

// P12.7: nodes that differ in one part only, valid or not.
func TestEqual(t *testing.T) {
	x := example()
	isEqual(t, x, x, true)
	isEqual(t, x, example(), true)
	isEqual(t, api.Node{}, api.Node{Kids: []api.Kid{}}, true)
	isEqual(t, api.Node{Text: "a"}, api.Node{Text: "a", Kids: example().Kids[:0]}, true)
	isEqual(t, api.Node{Height: -5, Text: "ab", Kids: make([]api.Kid, 1)}, api.Node{Height: -5, Text: "ab", Kids: make([]api.Kid, 1)}, true)
	isEqual(t, x, api.Node{Height: 2, Kids: x.Kids}, false)
	isEqual(t, x, api.Node{Height: 1, Text: "a", Kids: x.Kids}, false)
	isEqual(t, x, api.Node{Height: 1, Kids: x.Kids[:2]}, false)
	isEqual(t, x, api.Node{Height: 1}, false)
	isEqual(t, x, api.Node{}, false)
	isEqual(t, x, api.Node{Height: 1, Kids: append(slices.Clone(x.Kids), api.Kid{})}, false)
	isEqual(t, api.Node{Text: "a"}, api.Node{Text: "b"}, false)
	isEqual(t, api.Node{Text: "a"}, api.Node{Text: "ab"}, false)
	isEqual(t, api.Node{Text: "a"}, api.Node{}, false)
	isEqual(t, api.Node{Height: math.MinInt}, api.Node{}, false)
	isEqual(t, api.Node{Height: 1 << 32}, api.Node{}, false)
	isEqual(t, api.Node{}, api.Node{Kids: make([]api.Kid, 1)}, false)
	isEqual(t, example(), api.Node{Height: 1, Kids: []api.Kid{x.Kids[0], x.Kids[2], x.Kids[1]}}, false)
	for i, k := range x.Kids {
		for _, other := range []api.Kid{
			{At: k.At + 1, M: k.M}, {At: k.At + 1<<63, M: k.M}, {At: k.At, M: api.Measure{Bytes: k.M.Bytes + 1, Runes: k.M.Runes, Lines: k.M.Lines}},
			{At: k.At, M: api.Measure{Bytes: k.M.Bytes, Runes: k.M.Runes - 1, Lines: k.M.Lines}}, {At: k.At, M: api.Measure{Bytes: k.M.Bytes, Runes: k.M.Runes, Lines: k.M.Lines + 1<<32}}, {},
		} {
			isEqual(t, x, with(x, i, other), false)
		}
	}
}

// P12.7: pairs of nodes of all sorts.
func TestEqualPairs(t *testing.T) {
	l := []api.Node{example(), {}}
	for i, x := range slices.Concat(leaves(), inners()) {
		if i%23 == 0 {
			l = append(l, x)
		}
	}
	for _, a := range l {
		for _, b := range l {
			if node.Equal(a, b) != same(a, b) {
				t.Fatalf("Equal(%s, %s): %t", show(a), show(b), node.Equal(a, b))
			}
		}
		isEqual(t, a, copied(a), true)
	}
}
