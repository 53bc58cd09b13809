package chunk_test

import (
	"fmt"
	"math"
	"slices"
	"strings"
	"testing"

	"quarto/api"
	"quarto/chunk"
)

// This file has what the tests share: numbers and strings of all sorts, and the definitions of the chapter.

const (
	shortest = 8 // bytes of a text that is not short
	longest  = 16
	mostEven = 65536
)

// ordinary are numbers of elements that Even takes.
func ordinary() []int {
	l := []int{63, 64, 65, 255, 256, 257, 999, 1000, 4095, 4096, 4097, 32767, 32768, 32769, 65519, 65520, 65521, mostEven - 2, mostEven - 1, mostEven}
	for n := range 35 {
		l = append(l, n)
	}
	return l
}

// negative are numbers below 0, some of which have the last bits of one that is not.
func negative() []int {
	return []int{-1, -2, -16, -17, -65535, -65536, -65537, math.MinInt32, -1 << 32, -1<<32 + 1, math.MinInt, math.MinInt + 1, math.MinInt + 17}
}

// tooMany are numbers beyond those that Even takes, some of which have the last bits of one that it takes.
func tooMany() []int {
	return []int{mostEven + 1, mostEven + 2, mostEven + 17, 2 * mostEven, math.MaxInt32, 1 << 32, 1<<32 + 17, 1 << 62, math.MaxInt - 1, math.MaxInt}
}

// mosts are the greatest sizes of a group that are tried with n elements: those around n and its parts, and others at which a sum could wrap around.
func mosts(n int) []int {
	l := []int{1, 2, 3, 4, 5, 7, 8, 15, 16, 17, 255, 256, 257, mostEven - 1, mostEven, mostEven + 1, math.MaxInt32, 1 << 32, 1<<32 + 1, 1 << 62, math.MaxInt - mostEven, math.MaxInt - n + 1, math.MaxInt - n, math.MaxInt - 1, math.MaxInt}
	for _, part := range []int{n, n / 2, n / 3, n / 4} {
		l = append(l, part-1, part, part+1)
	}
	return slices.DeleteFunc(l, func(most int) bool { return most < 1 })
}

// dealt is the definition of the sizes of groups: as few groups as hold n elements, most in each, to which the elements are dealt one by one.
func dealt(n, most int) []int {
	count := 0
	for left := n; left > 0; left -= most {
		count++
	}
	sizes := make([]int, count)
	for i := range n {
		sizes[i%count]++
	}
	return sizes
}

// chunked is the definition of Chunks.
func chunked(s string) []string {
	l := []string{}
	for _, n := range dealt(len(s), longest) {
		l = append(l, s[:n])
		s = s[n:]
	}
	return l
}

// isLeaf tells whether s is the text of a leaf.
func isLeaf(s string) bool { return s != "" && len(s) <= longest }

// joined is the definition of Join.
func joined(a, b string) ([]string, api.Errno) {
	if !isLeaf(a) || !isLeaf(b) {
		return nil, api.ErrArg
	}
	both := a + b
	half := len(both) - len(both)/2
	switch {
	case len(both) <= longest:
		return []string{both}, api.OK
	case len(a) >= shortest && len(b) >= shortest:
		return []string{a, b}, api.OK
	}
	return []string{both[:half], both[half:]}, api.OK
}

// strange are strings of n bytes: some in which all bytes near each other differ, and some of which most offsets are within the encoding of a rune, or which have no valid encoding at all.
func strange(n int) []string {
	ascii, others := make([]byte, n), make([]byte, n)
	for i := range n {
		ascii[i] = byte(i*7%127 + 1)
		others[i] = byte(i*11%251 + 5)
	}
	l := []string{string(ascii), string(others)}
	for _, unit := range []string{"\xe2\x82\xac", "a\xf0\x9f\x98\x80\n", "\x80", "\xff\xfe", "\x00"} {
		l = append(l, strings.Repeat(unit, n/len(unit)+1)[:n])
	}
	return l
}

// leaves are the lengths around those that the text of a leaf can have.
func leaves() []int {
	l := []int{}
	for n := range longest + 2 {
		l = append(l, n)
	}
	return l
}

// tooLong are lengths of strings that are no texts of leaves.
func tooLong() []int { return []int{longest + 1, longest + 2, 31, 32, 33, 255, 256, 65536, 65537} }

// show prints the beginning of a value.
func show(x any) string {
	s := fmt.Sprintf("%q", x)
	if numbers, is := x.([]int); is {
		s = fmt.Sprint(numbers)
	}
	return s[:min(len(s), 200)]
}

// isEven checks what Even returns.
func isEven(t *testing.T, n, most int, want []int, e api.Errno) {
	t.Helper()
	if got, is := chunk.Even(n, most); !slices.Equal(got, want) || is != e {
		t.Fatalf("Even(%d, %d): %d sizes, %s, %d; want %d, %s, %d", n, most, len(got), show(got), is, len(want), show(want), e)
	}
}

// isChunks checks what Chunks returns.
func isChunks(t *testing.T, s string, want []string) {
	t.Helper()
	before := strings.Clone(s)
	if got := chunk.Chunks(s); !slices.Equal(got, want) {
		t.Fatalf("Chunks(%s), %d bytes: %d parts, %s; want %d, %s", show(s), len(s), len(got), show(got), len(want), show(want))
	}
	if s != before {
		t.Fatalf("Chunks changed %s", show(before))
	}
}

// isJoin checks what Join returns.
func isJoin(t *testing.T, a, b string, want []string, e api.Errno) {
	t.Helper()
	x, y := strings.Clone(a), strings.Clone(b)
	if got, is := chunk.Join(a, b); !slices.Equal(got, want) || is != e {
		t.Fatalf("Join(%s, %s), %d and %d bytes: %s, %d; want %s, %d", show(a), show(b), len(a), len(b), show(got), is, show(want), e)
	}
	if a != x || b != y {
		t.Fatalf("Join changed %s or %s", show(x), show(y))
	}
}

// isCut checks what Cut returns.
func isCut(t *testing.T, s string, at int, left, right string, e api.Errno) {
	t.Helper()
	before := strings.Clone(s)
	if l, r, is := chunk.Cut(s, at); l != left || r != right || is != e {
		t.Fatalf("Cut(%s, %d), %d bytes: %s, %s, %d; want %s, %s, %d", show(s), at, len(s), show(l), show(r), is, show(left), show(right), e)
	}
	if s != before {
		t.Fatalf("Cut changed %s", show(before))
	}
}
