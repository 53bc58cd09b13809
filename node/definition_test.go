package node_test

import (
	"encoding/hex"
	"fmt"
	"math"
	"math/rand"
	"slices"
	"strings"
	"testing"

	"quarto/api"
	"quarto/node"
)

// This file has what the tests share: nodes, children and numbers of all sorts, and the definitions of the chapter.

// leastBytes and mostBytes are how many bytes a child has at least and at most, in a node of height 1, of height 2, and so on.
var (
	leastBytes = [16]int{8, 16, 32, 64, 128, 256, 512, 1024, 2048, 4096, 8192, 16384, 32768, 65536, 131072, 262144}
	mostBytes  = [16]int{16, 64, 256, 1024, 4096, 16384, 65536, 65536, 65536, 65536, 65536, 65536, 65536, 65536, 65536, 65536}
)

// count is one of the numbers of a measure.
type count func(m api.Measure) int

func countBytes(m api.Measure) int { return m.Bytes }
func countRunes(m api.Measure) int { return m.Runes }
func countLines(m api.Measure) int { return m.Lines }

// made is the number that the definition makes of a slot and a generation.
func made(slot int, gen uint64) api.Handle { return api.Handle(gen*65536 + uint64(slot)) }

// kid is a child in the first generation of a slot.
func kid(slot, bytes, runes, lines int) api.Kid {
	return api.Kid{At: made(slot, 1), M: api.Measure{Bytes: bytes, Runes: runes, Lines: lines}}
}

// inner is a node whose children have these numbers of bytes, as many runes, and no line feeds.
func inner(height int, bytes ...int) api.Node {
	x := api.Node{Height: height}
	for i, n := range bytes {
		x.Kids = append(x.Kids, kid(i, n, n, 0))
	}
	return x
}

// example is the node of the chapter's examples.
func example() api.Node {
	return api.Node{Height: 1, Kids: []api.Kid{kid(0, 9, 8, 1), kid(1, 8, 0, 0), kid(2, 10, 10, 2)}}
}

// least is a node of that height, from 1 to 16, with n children that have the least numbers of bytes.
func least(height, n int) api.Node {
	return inner(height, slices.Repeat([]int{leastBytes[height-1]}, n)...)
}

// with returns x with another child in place of the one with the index i.
func with(x api.Node, i int, k api.Kid) api.Node {
	x.Kids = slices.Clone(x.Kids)
	x.Kids[i] = k
	return x
}

// heights are heights of inner nodes, and numbers that are not, some of which have the last bits of one.
func heights() []int {
	l := []int{math.MinInt, math.MinInt + 1, -256 + 1, -255 - 256, -17, -16, -2, -1, 0, 17, 18, 31, 32, 33, 63, 64, 65, 255, 256, 257, 258, 1 << 16, 1<<16 + 1, 1 << 32, 1<<32 + 1, 1<<62 + 1, math.MaxInt - 1, math.MaxInt}
	for height := range 16 {
		l = append(l, height+1)
	}
	return l
}

// ends are numbers at the ends of the integers, and ones that have the last bits of smaller ones.
func ends() []int {
	return []int{math.MinInt, math.MinInt + 1, math.MinInt + 8, math.MinInt + 9, -1 << 32, -1<<32 + 8, -1 << 16, -65528, -9, -8, -2, 1 << 17, 1<<32 + 8, 1<<32 + 16, 1<<62 + 8, math.MaxInt - 8, math.MaxInt - 1, math.MaxInt}
}

// texts are texts of no byte and of more, up to and beyond the greatest leaf, among them texts that are no valid UTF-8.
func texts() []string {
	l := []string{
		"", "a", "\n", "\x00", "\x80", "\xff", "\xc3", "ab", "a\nb\n", "\n\n\n\n\n\n\n\n\n\n\n\n\n\n\n\n", "\xe2\x82\xac\xe2\x82\xac", "\xe2\x82", "\x80\x80\x80", "\xbf\xc0\x80\x7f\xf8",
		"\x00\x00\x00\x00\x00\x00\x00\x00\x00\x00\x00\x00\x00\x00\x00\x00", "\xed\xa0\x80", "\xf4\x90\x80\x80", "0123456789abcde\n", "0123456789abcde\x80",
	}
	for n := range 20 {
		l = append(l, strings.Repeat("\xa9", n), strings.Repeat("x", n), "0123456789abcdefghij"[:n])
	}
	return append(l, strings.Repeat("x", 48), strings.Repeat("x", 256), strings.Repeat("x", 257), strings.Repeat("x", 65537))
}

// leaves are nodes of height 0, valid ones and others.
func leaves() []api.Node {
	var l []api.Node
	for _, text := range texts() {
		l = append(l, api.Node{Text: text}, api.Node{Text: text, Kids: []api.Kid{}}, api.Node{Text: text, Kids: example().Kids[:0]})
		for n := 1; n <= 5; n++ {
			l = append(l, api.Node{Text: text, Kids: least(1, n).Kids})
		}
		l = append(l, api.Node{Text: text, Kids: make([]api.Kid, 1)})
	}
	return l
}

// kids are children for a node of that height, from 1 to 16, valid ones and others.
func kids(height int) []api.Kid {
	low, high := leastBytes[height-1], mostBytes[height-1]
	var l []api.Kid
	for _, n := range append(ends(), -1, 0, 1, 7, low/2, low-1, low, low+1, high-1, high, high+1, high*4, 65535, 65536, 65537) {
		l = append(l, kid(3, n, 0, 0), kid(3, n, 1, 1), kid(3, n, min(n, 8), 0))
	}
	for _, n := range []int{low, low + 1, high} {
		for _, m := range append(ends(), -1, 0, 1, n-1, n, n+1, n+2, 65536) {
			l = append(l, kid(3, n, m, 0), kid(3, n, n, m), kid(3, n, m, m), kid(3, n, m, m-1), kid(3, n, m, m+1), kid(3, n, 2, m))
		}
		l = append(l, kid(3, n, 2, 1), kid(3, n, 2, 2), kid(3, n, 2, 3), kid(3, n, 0, 1), kid(3, n, 0, -1))
	}
	for _, at := range numbers() {
		l = append(l, api.Kid{At: at, M: api.Measure{Bytes: low, Runes: low, Lines: 1}})
	}
	return l
}

// numbers are valid handles, and numbers that are none.
func numbers() []api.Handle {
	var l []api.Handle
	for _, slot := range []int{0, 1, 255, 256, 16383, 16384, 16385, 32768, 65535} {
		for _, gen := range []uint64{0, 1, 2, 255, 256, 65536, 1<<24 + 5, 4294967294, 4294967295, 4294967296, 4294967297, 1<<48 - 1} {
			l = append(l, made(slot, gen))
		}
	}
	return append(l, math.MaxUint64, math.MaxUint64-1, 1<<63)
}

// inners are nodes with children, valid ones and others: of all heights and numbers of children, and with each child at each index among valid ones.
func inners() []api.Node {
	var l []api.Node
	for _, height := range heights() {
		for n := range 7 {
			x := inner(height, slices.Repeat([]int{8}, n)...)
			if height >= 1 && height <= 16 {
				x = least(height, n)
			}
			l = append(l, x, api.Node{Height: height, Text: "a", Kids: x.Kids}, api.Node{Height: height, Text: "0123456789abcdefg", Kids: x.Kids})
		}
		l = append(l, inner(height, slices.Repeat([]int{64}, 1000)...), api.Node{Height: height, Kids: []api.Kid{}}, api.Node{Height: height, Kids: make([]api.Kid, 2)})
	}
	for height := 1; height <= 16; height++ {
		for n := 2; n <= 4; n++ {
			for _, k := range kids(height) {
				l = append(l, with(least(height, n), 0, k), with(least(height, n), n-1, k), api.Node{Height: height, Kids: slices.Repeat([]api.Kid{k}, n)})
			}
		}
	}
	return append(l, fulls()...)
}

// fulls are nodes whose bytes are MaxText, one less and one more, of all heights that can have so many.
func fulls() []api.Node {
	l := []api.Node{inner(6, 16384, 16384, 16384, 16384), inner(6, 16384, 16383, 16384, 16384), inner(6, 16384, 16384, 16384)}
	for height := 7; height <= 13; height++ {
		for n := 2; n <= 4; n++ {
			for i := range n {
				last := 65536 - (n-1)*leastBytes[height-1]
				for _, bytes := range []int{last - 1, last, last + 1} {
					x := least(height, n)
					x.Kids[i].M = api.Measure{Bytes: bytes, Runes: bytes, Lines: bytes}
					l = append(l, x)
				}
			}
		}
	}
	return l
}

// all are nodes of all sorts.
func all() []api.Node {
	return slices.Concat(leaves(), inners(), []api.Node{example(), {}})
}

// valids are the valid ones of all nodes, each once.
func valids() []api.Node {
	var l []api.Node
	seen := map[string]bool{}
	for _, x := range all() {
		if checked(x) == api.OK && !seen[encoding(x)] {
			seen[encoding(x)] = true
			l = append(l, x)
		}
	}
	return l
}

// small returns a valid node of height 1 whose children have runes and line feeds or not, from a source of numbers.
func small(r *rand.Rand) api.Node {
	x := api.Node{Height: 1}
	for slot := range 2 + r.Intn(3) {
		bytes := 8 + r.Intn(9)
		runes := r.Intn(2) * r.Intn(bytes+1)
		x.Kids = append(x.Kids, kid(slot, bytes, runes, r.Intn(2)*r.Intn(runes+1)))
	}
	return x
}

// isHandle is the definition of a valid handle, by division.
func isHandle(h api.Handle) bool {
	slot, gen := h%65536, h/65536
	return slot <= 16383 && gen >= 1 && gen <= 4294967295
}

// wellFormed is the definition, condition by condition.
func wellFormed(x api.Node) bool {
	if x.Height == 0 {
		return len(x.Text) >= 1 && len(x.Text) <= 16 && len(x.Kids) == 0
	}
	if x.Height < 1 || x.Height > 16 || len(x.Text) > 0 || len(x.Kids) < 2 || len(x.Kids) > 4 {
		return false
	}
	for _, k := range x.Kids {
		m := k.M
		if !isHandle(k.At) || m.Bytes < leastBytes[x.Height-1] || m.Bytes > mostBytes[x.Height-1] || m.Runes < 0 || m.Runes > m.Bytes || m.Lines < 0 || m.Lines > m.Runes {
			return false
		}
	}
	return true
}

// measured is the definition of the measure of a well-formed node, byte by byte and child by child.
func measured(x api.Node) api.Measure {
	var sum api.Measure
	for _, b := range []byte(x.Text) {
		sum.Bytes++
		if b < 128 || b > 191 {
			sum.Runes++
		}
		if b == 10 {
			sum.Lines++
		}
	}
	for _, k := range x.Kids {
		sum.Bytes += k.M.Bytes
		sum.Runes += k.M.Runes
		sum.Lines += k.M.Lines
	}
	return sum
}

// checked is the definition of Check.
func checked(x api.Node) api.Errno {
	if !wellFormed(x) {
		return api.ErrShape
	}
	if measured(x).Bytes > 65536 {
		return api.ErrLong
	}
	return api.OK
}

// found is the definition of Child and Rune (first is 0), and of Line (first is 1).
func found(x api.Node, n, first int, of count) (int, int, api.Errno) {
	if e := checked(x); e != api.OK {
		return 0, 0, e
	}
	if x.Height == 0 {
		return 0, 0, api.ErrState
	}
	for i := range x.Kids {
		before, through := of(measured(api.Node{Kids: x.Kids[:i]})), of(measured(api.Node{Kids: x.Kids[:i+1]}))
		if n >= first && n-first < through {
			return i, n - before, api.OK
		}
	}
	return 0, 0, api.ErrRange
}

// encoding is the definition, for valid nodes, by hexadecimal digits.
func encoding(x api.Node) string {
	digits := fmt.Sprintf("%02x%x", x.Height, x.Text)
	for _, k := range x.Kids {
		digits += fmt.Sprintf("%012x%04x%04x%04x", uint64(k.At), k.M.Bytes, k.M.Runes, k.M.Lines)
	}
	return unhex(digits)
}

// unhex returns the bytes that are written in hexadecimal digits, which may be set apart.
func unhex(digits string) string {
	s, err := hex.DecodeString(strings.NewReplacer(" ", "", ",", "", ";", "").Replace(digits))
	if err != nil {
		panic(err)
	}
	return string(s)
}

// decoded is the definition of Decode: of the two nodes that s could be an encoding of, it takes the one whose encoding s is.
func decoded(s string) (api.Node, api.Errno) {
	if s == "" {
		return api.Node{}, api.ErrForm
	}
	number := func(s string) int {
		n := 0
		for _, b := range []byte(s) {
			n = n*256 + int(b)
		}
		return n
	}
	x := api.Node{Height: int(s[0])}
	for at := 1; at+12 <= len(s); at += 12 {
		m := api.Measure{Bytes: number(s[at+6 : at+8]), Runes: number(s[at+8 : at+10]), Lines: number(s[at+10 : at+12])}
		x.Kids = append(x.Kids, api.Kid{At: api.Handle(number(s[at : at+6])), M: m})
	}
	for _, x := range []api.Node{{Text: s[1:]}, x} {
		if checked(x) == api.OK && encoding(x) == s {
			return x, api.OK
		}
	}
	return api.Node{}, api.ErrForm
}

// same is the definition of Equal: all fields are equal, the children one by one.
func same(a, b api.Node) bool {
	if a.Height != b.Height || a.Text != b.Text || len(a.Kids) != len(b.Kids) {
		return false
	}
	for i := range a.Kids {
		if a.Kids[i] != b.Kids[i] {
			return false
		}
	}
	return true
}

// copied is a node that shares nothing with x.
func copied(x api.Node) api.Node {
	x.Kids = slices.Clone(x.Kids)
	return x
}

// show prints the beginning of a node or of a string.
func show(x any) string {
	s := fmt.Sprintf("%v", x)
	if text, is := x.(string); is {
		s = fmt.Sprintf("%d bytes, %x", len(text), text[:min(len(text), 60)])
	}
	if x, is := x.(api.Node); is {
		s = fmt.Sprintf("{%d %+q %v}", x.Height, x.Text[:min(len(x.Text), 20)], x.Kids)
	}
	return s[:min(len(s), 300)]
}

// isCheck checks what Check and Measure return, and what Leaf or Inner returns for the parts of the node.
func isCheck(t *testing.T, x api.Node, want api.Errno) {
	t.Helper()
	before, valid, sum := copied(x), x, measured(x)
	if want != api.OK {
		valid, sum = api.Node{}, api.Measure{}
	}
	if e := node.Check(x); e != want {
		t.Fatalf("Check(%s): %d; want %d", show(x), e, want)
	}
	if m, e := node.Measure(x); m != sum || e != want {
		t.Fatalf("Measure(%s): %v, %d; want %v, %d", show(x), m, e, sum, want)
	}
	if x.Text == "" {
		if y, e := node.Inner(x.Height, x.Kids...); !same(y, valid) || e != want {
			t.Fatalf("Inner of %s: %s, %d; want error %d", show(x), show(y), e, want)
		}
	}
	if x.Height == 0 && len(x.Kids) == 0 {
		if y, e := node.Leaf(x.Text); !same(y, valid) || e != want {
			t.Fatalf("Leaf(%s): %s, %d; want error %d", show(x.Text), show(y), e, want)
		}
	}
	if !same(x, before) {
		t.Fatalf("%s was changed to %s", show(before), show(x))
	}
}

// isFound checks what Child, Rune and Line return for the same number.
func isFound(t *testing.T, x api.Node, n int) {
	t.Helper()
	i, rest, e := found(x, n, 0, countBytes)
	isChild(t, x, n, i, rest, e)
	i, rest, e = found(x, n, 0, countRunes)
	isRune(t, x, n, i, rest, e)
	i, rest, e = found(x, n, 1, countLines)
	isLine(t, x, n, i, rest, e)
}

// isChild checks what Child returns.
func isChild(t *testing.T, x api.Node, at, i, rest int, e api.Errno) {
	t.Helper()
	if j, left, got := node.Child(x, at); j != i || left != rest || got != e {
		t.Fatalf("Child(%s, %d): %d, %d, %d; want %d, %d, %d", show(x), at, j, left, got, i, rest, e)
	}
}

// isRune checks what Rune returns.
func isRune(t *testing.T, x api.Node, n, i, rest int, e api.Errno) {
	t.Helper()
	if j, left, got := node.Rune(x, n); j != i || left != rest || got != e {
		t.Fatalf("Rune(%s, %d): %d, %d, %d; want %d, %d, %d", show(x), n, j, left, got, i, rest, e)
	}
}

// isLine checks what Line returns.
func isLine(t *testing.T, x api.Node, n, i, rest int, e api.Errno) {
	t.Helper()
	if j, left, got := node.Line(x, n); j != i || left != rest || got != e {
		t.Fatalf("Line(%s, %d): %d, %d, %d; want %d, %d, %d", show(x), n, j, left, got, i, rest, e)
	}
}

// isEncode checks what Encode returns, and that Decode returns the node again.
func isEncode(t *testing.T, x api.Node, want string, e api.Errno) {
	t.Helper()
	if s, got := node.Encode(x); s != want || got != e {
		t.Fatalf("Encode(%s): %s, %d; want %s, %d", show(x), show(s), got, show(want), e)
	}
	if e == api.OK {
		isDecode(t, want, x, api.OK)
	}
}

// isDecode checks what Decode returns.
func isDecode(t *testing.T, s string, want api.Node, e api.Errno) {
	t.Helper()
	if x, got := node.Decode(s); !same(x, want) || got != e {
		t.Fatalf("Decode(%s): %s, %d; want %s, %d", show(s), show(x), got, show(want), e)
	}
}

// isEqual checks what Equal returns, for both orders of the nodes.
func isEqual(t *testing.T, a, b api.Node, want bool) {
	t.Helper()
	if node.Equal(a, b) != want || node.Equal(b, a) != want {
		t.Fatalf("Equal(%s, %s): %t, and %t in the other order; want %t", show(a), show(b), node.Equal(a, b), node.Equal(b, a), want)
	}
}
