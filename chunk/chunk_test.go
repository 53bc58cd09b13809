package chunk_test

import (
	"math"
	"math/rand"
	"slices"
	"strings"
	"testing"
	"unicode/utf8"

	"quarto/api"
)

// The chapter's examples, in their order.
func TestExamples(t *testing.T) {
	isEven(t, 17, 16, []int{9, 8}, api.OK)
	isEven(t, 33, 16, []int{11, 11, 11}, api.OK)
	isEven(t, 5, 4, []int{3, 2}, api.OK)
	isEven(t, 0, 4, nil, api.OK)
	isEven(t, -1, 4, nil, api.ErrArg)
	isEven(t, 1, 0, nil, api.ErrArg)
	isEven(t, 65537, 1, nil, api.ErrLong)
	isEven(t, 65536, 65536, []int{65536}, api.OK)
	isChunks(t, "abcdefghijklmnopq", []string{"abcdefghi", "jklmnopq"})
	isChunks(t, "abc", []string{"abc"})
	isChunks(t, "", nil)
	isJoin(t, "abc", "def", []string{"abcdef"}, api.OK)
	isJoin(t, "abcdefgh", "ijklmnopq", []string{"abcdefgh", "ijklmnopq"}, api.OK)
	isJoin(t, "abc", "defghijklmnopqrs", []string{"abcdefghij", "klmnopqrs"}, api.OK)
	isJoin(t, "", "a", nil, api.ErrArg)
	isCut(t, "abc", 1, "a", "bc", api.OK)
	isCut(t, "abc", 0, "", "abc", api.OK)
	isCut(t, "abc", 4, "", "", api.ErrRange)
	isCut(t, "", 0, "", "", api.ErrArg)
}

// P14.1: the sizes for few and for many elements, with the greatest size far from their number and around it and its parts.
func TestEven(t *testing.T) {
	for _, n := range ordinary() {
		for _, most := range mosts(n) {
			isEven(t, n, most, dealt(n, most), api.OK)
		}
	}
	isEven(t, 1, 1, []int{1}, api.OK)
	isEven(t, 2, 1, []int{1, 1}, api.OK)
	isEven(t, 16, 16, []int{16}, api.OK)
	isEven(t, 15, 16, []int{15}, api.OK)
	isEven(t, 32, 16, []int{16, 16}, api.OK)
	isEven(t, 31, 16, []int{16, 15}, api.OK)
	isEven(t, 34, 16, []int{12, 11, 11}, api.OK)
	isEven(t, 35, 16, []int{12, 12, 11}, api.OK)
	isEven(t, 9, 4, []int{3, 3, 3}, api.OK)
	isEven(t, 10, 4, []int{4, 3, 3}, api.OK)
	isEven(t, 65536, 65535, []int{32768, 32768}, api.OK)
	isEven(t, 65535, 65534, []int{32768, 32767}, api.OK)
	isEven(t, 65536, math.MaxInt, []int{65536}, api.OK)
	isEven(t, 1, math.MaxInt, []int{1}, api.OK)
	isEven(t, 65536, 1, slices.Repeat([]int{1}, 65536), api.OK)
}

// P14.1: all small numbers, of which the one divides the other or does not.
func TestEvenSmall(t *testing.T) {
	for n := range 150 {
		for most := 1; most <= 160; most++ {
			isEven(t, n, most, dealt(n, most), api.OK)
		}
	}
}

// P14.1: all numbers of elements in one group and in two, and no elements with all those as the greatest size.
func TestEvenAll(t *testing.T) {
	for n := range mostEven + 1 {
		isEven(t, n, mostEven, []int{n}[:min(n, 1)], api.OK)
		isEven(t, 0, n+1, nil, api.OK)
		if n > 1 {
			half := n - n/2
			isEven(t, n, n-1, []int{half, n - half}, api.OK)
			isEven(t, n, half, []int{half, n - half}, api.OK)
		}
	}
}

// P14.1: numbers that are no arguments, the one, the other and both: what is not an argument at all comes before what is too long.
func TestEvenErrors(t *testing.T) {
	wrong := append(negative(), 0)
	for _, n := range slices.Concat(negative(), ordinary(), tooMany()) {
		for _, most := range wrong {
			isEven(t, n, most, nil, api.ErrArg)
		}
	}
	for _, n := range negative() {
		for _, most := range append(mosts(1), tooMany()...) {
			isEven(t, n, most, nil, api.ErrArg)
		}
	}
	for _, n := range tooMany() {
		// The great ones first: if they were accepted, groups of 1 could be more than the memory holds.
		for _, most := range slices.Concat([]int{n, n - 1}, tooMany(), mosts(1)) {
			isEven(t, n, most, nil, api.ErrLong)
		}
	}
	isEven(t, math.MinInt, math.MinInt, nil, api.ErrArg)
	isEven(t, math.MinInt, math.MaxInt, nil, api.ErrArg)
	isEven(t, math.MaxInt, math.MinInt, nil, api.ErrArg)
	isEven(t, math.MaxInt, math.MaxInt, nil, api.ErrLong)
	isEven(t, -1, 0, nil, api.ErrArg)
	isEven(t, 0, 0, nil, api.ErrArg)
	isEven(t, 0, -1, nil, api.ErrArg)
	isEven(t, 65536, 0, nil, api.ErrArg)
	isEven(t, 65537, 0, nil, api.ErrArg)
	isEven(t, 65537, -1, nil, api.ErrArg)
}

// P14.2: strings of all lengths up to some leaves, and around longer ones, also beyond MaxText.
func TestChunks(t *testing.T) {
	lengths := []int{999, 1000, 1001, 4095, 4096, 4097, mostEven - 1, mostEven, mostEven + 1, 2*mostEven - 3, 1<<20 - 1, 1 << 20, 1<<20 + 1}
	for n := range 400 {
		lengths = append(lengths, n)
	}
	for _, n := range lengths {
		for _, s := range strange(n) {
			isChunks(t, s, chunked(s))
		}
	}
	const s = "0123456789ABCDEFGHIJKLMNOPQRSTUVWXYZ"
	isChunks(t, s[:1], []string{"0"})
	isChunks(t, s[:7], []string{"0123456"})
	isChunks(t, s[:8], []string{"01234567"})
	isChunks(t, s[:15], []string{"0123456789ABCDE"})
	isChunks(t, s[:16], []string{"0123456789ABCDEF"})
	isChunks(t, s[:31], []string{"0123456789ABCDEF", "GHIJKLMNOPQRSTU"})
	isChunks(t, s[:32], []string{"0123456789ABCDEF", "GHIJKLMNOPQRSTUV"})
	isChunks(t, s[:33], []string{"0123456789A", "BCDEFGHIJKL", "MNOPQRSTUVW"})
	isChunks(t, s[:34], []string{"0123456789AB", "CDEFGHIJKLM", "NOPQRSTUVWX"})
	isChunks(t, s[:35], []string{"0123456789AB", "CDEFGHIJKLMN", "OPQRSTUVWXY"})
}

// P14.2: strings are cut at any byte, within the encoding of a rune and where there is none.
func TestChunksBytes(t *testing.T) {
	for _, x := range []struct {
		s    string
		want []string
	}{
		{"ab\xe2\x82\xac\xe2\x82\xac\xe2\x82\xac\xe2\x82\xac\xe2\x82\xac", []string{"ab\xe2\x82\xac\xe2\x82\xac\xe2", "\x82\xac\xe2\x82\xac\xe2\x82\xac"}},
		{"a\xe2\x82\xac\xe2\x82\xac\xe2\x82\xac\xe2\x82\xac\xe2\x82\xaca", []string{"a\xe2\x82\xac\xe2\x82\xac\xe2\x82", "\xac\xe2\x82\xac\xe2\x82\xaca"}},
		{"1234567\xf0\x9f\x98\x80890123", []string{"1234567\xf0\x9f", "\x98\x80890123"}},
		{"123456789\x80\x80\x80\x80\x80\x80\x80\x80", []string{"123456789", "\x80\x80\x80\x80\x80\x80\x80\x80"}},
		{"\xff\xff\xff\xff\xff\xff\xff\xff\xff\xfe\xfe\xfe\xfe\xfe\xfe\xfe\xfe", []string{"\xff\xff\xff\xff\xff\xff\xff\xff\xff", "\xfe\xfe\xfe\xfe\xfe\xfe\xfe\xfe"}},
		{"12345678\r\n1234567", []string{"12345678\r", "\n1234567"}},
		{"\x00\x00\x00\x00\x00\x00\x00\x00\x00\n\n\n\n\n\n\n\n", []string{"\x00\x00\x00\x00\x00\x00\x00\x00\x00", "\n\n\n\n\n\n\n\n"}},
		{"\xe2", []string{"\xe2"}},
		{"\x80", []string{"\x80"}},
	} {
		isChunks(t, x.s, x.want)
	}
	r := rand.New(rand.NewSource(14))
	within := 0
	for range 2000 {
		valid, others := make([]rune, r.Intn(40)), make([]byte, r.Intn(120))
		for i := range valid {
			valid[i] = []rune{'a', '\n', 228, 8364, 128512}[r.Intn(5)]
		}
		r.Read(others)
		for _, part := range chunked(string(valid)) {
			if !utf8.ValidString(part) {
				within++
			}
		}
		isChunks(t, string(valid), chunked(string(valid)))
		isChunks(t, string(others), chunked(string(others)))
	}
	if within < 1000 {
		t.Fatalf("only %d parts begin or end within the encoding of a rune", within)
	}
}

// P14.3: texts of every two lengths around those of leaves, and longer ones.
func TestJoin(t *testing.T) {
	for _, n := range append(leaves(), tooLong()...) {
		for _, m := range append(leaves(), tooLong()...) {
			for _, s := range strange(n + m) {
				want, e := joined(s[:n], s[n:])
				isJoin(t, s[:n], s[n:], want, e)
			}
		}
	}
	const s = "0123456789ABCDEFGHIJKLMNOPQRSTUVWXYZ"
	for _, x := range []struct {
		n, m  int
		sizes []int
	}{
		{1, 1, []int{2}}, {1, 15, []int{16}}, {15, 1, []int{16}}, {8, 8, []int{16}}, {7, 9, []int{16}}, {9, 7, []int{16}}, {7, 8, []int{15}},
		{8, 9, []int{8, 9}}, {9, 8, []int{9, 8}}, {8, 16, []int{8, 16}}, {16, 8, []int{16, 8}}, {9, 16, []int{9, 16}}, {16, 16, []int{16, 16}}, {10, 15, []int{10, 15}},
		{1, 16, []int{9, 8}}, {16, 1, []int{9, 8}}, {2, 16, []int{9, 9}}, {16, 2, []int{9, 9}}, {7, 10, []int{9, 8}}, {10, 7, []int{9, 8}}, {7, 11, []int{9, 9}}, {7, 16, []int{12, 11}}, {16, 7, []int{12, 11}}, {6, 16, []int{11, 11}}, {16, 6, []int{11, 11}},
	} {
		var want []string
		at := 0
		for _, n := range x.sizes {
			want = append(want, s[at:at+n])
			at += n
		}
		isJoin(t, s[:x.n], s[x.n:x.n+x.m], want, api.OK)
	}
}

// P14.3: no texts of leaves, the one, the other and both.
func TestJoinErrors(t *testing.T) {
	const s = "0123456789ABCDEFG"
	for _, wrong := range []string{"", s, s + s, strings.Repeat("x", mostEven), strings.Repeat("\x80", mostEven+1)} {
		for _, right := range []string{"a", "abcdefg", "abcdefgh", "abcdefghijklmnop", "\x80", "\xff\xff\xff\xff\xff\xff\xff\xff"} {
			isJoin(t, wrong, right, nil, api.ErrArg)
			isJoin(t, right, wrong, nil, api.ErrArg)
		}
		isJoin(t, wrong, wrong, nil, api.ErrArg)
		isJoin(t, wrong, "", nil, api.ErrArg)
		isJoin(t, wrong, s, nil, api.ErrArg)
	}
}

// P14.3: texts are halved at any byte.
func TestJoinBytes(t *testing.T) {
	isJoin(t, "\xe2\x82\xac", "\xe2\x82\xac\xe2\x82\xac\xe2\x82\xac\xe2\x82\xac\xe2\x82", []string{"\xe2\x82\xac\xe2\x82\xac\xe2\x82\xac", "\xe2\x82\xac\xe2\x82\xac\xe2\x82"}, api.OK)
	isJoin(t, "1", "123456\xf0\x9f\x98\x80123456", []string{"1123456\xf0\x9f", "\x98\x80123456"}, api.OK)
	isJoin(t, "\x80\x80", "\xff\xff\xff\xff\xff\xff\xff\xff\xff\xff\xff\xff\xff\xff\xff\xfe", []string{"\x80\x80\xff\xff\xff\xff\xff\xff\xff", "\xff\xff\xff\xff\xff\xff\xff\xff\xfe"}, api.OK)
	isJoin(t, "\xe2", "\x82\xac", []string{"\xe2\x82\xac"}, api.OK)
	isJoin(t, "\x00", "\n", []string{"\x00\n"}, api.OK)
	for b := range 256 {
		one := string([]byte{byte(b)})
		isJoin(t, one, "x", []string{one + "x"}, api.OK)
		isJoin(t, "x", one, []string{"x" + one}, api.OK)
	}
}

// P14.4: texts of all lengths, at all offsets, at those around them, and at the ends of the integers.
func TestCut(t *testing.T) {
	beyond := append(negative(), tooMany()...)
	for _, n := range append(leaves(), tooLong()...) {
		for _, s := range strange(n) {
			for at := -3; at <= min(n, 40)+3; at++ {
				switch {
				case n < 1 || n > longest:
					isCut(t, s, at, "", "", api.ErrArg)
				case at < 0 || at > n:
					isCut(t, s, at, "", "", api.ErrRange)
				default:
					isCut(t, s, at, s[:at], s[at:], api.OK)
				}
			}
			for _, at := range append(beyond, math.MaxInt-n, math.MinInt+n) {
				e := api.ErrRange
				if n < 1 || n > longest {
					e = api.ErrArg
				}
				isCut(t, s, at, "", "", e)
			}
		}
	}
	const s = "0123456789ABCDEFG"
	isCut(t, s[:1], 0, "", "0", api.OK)
	isCut(t, s[:1], 1, "0", "", api.OK)
	isCut(t, s[:1], 2, "", "", api.ErrRange)
	isCut(t, s[:1], -1, "", "", api.ErrRange)
	isCut(t, s[:16], 0, "", "0123456789ABCDEF", api.OK)
	isCut(t, s[:16], 1, "0", "123456789ABCDEF", api.OK)
	isCut(t, s[:16], 16, "0123456789ABCDEF", "", api.OK)
	isCut(t, s[:16], 17, "", "", api.ErrRange)
	isCut(t, s[:16], math.MinInt, "", "", api.ErrRange)
	isCut(t, s[:16], math.MaxInt, "", "", api.ErrRange)
	isCut(t, "\xe2\x82\xac", 1, "\xe2", "\x82\xac", api.OK)
	isCut(t, "\xe2\x82\xac", 2, "\xe2\x82", "\xac", api.OK)
	isCut(t, "\x80\x80", 1, "\x80", "\x80", api.OK)
}

// P14.4, R2: of a string that is no text of a leaf, the offset makes no difference.
func TestCutErrors(t *testing.T) {
	const s = "0123456789ABCDEFG"
	for _, wrong := range []string{"", s, s + s, strings.Repeat("x", mostEven)} {
		for _, at := range []int{-1, 0, 1, 2, 8, 16, 17, 18, len(wrong), len(wrong) + 1, math.MinInt, math.MaxInt} {
			isCut(t, wrong, at, "", "", api.ErrArg)
		}
	}
}
