package seek_test

import (
	"fmt"
	"math"
	"math/rand"
	"slices"
	"strings"
	"testing"

	"quarto/api"
	"quarto/arena"
	"quarto/plan"
	"quarto/rope"
	"quarto/seek"
)

// This file has what the tests share: an arena of ropes whose texts are known, and the definitions of the chapter, against which each call is held.

// leaf is a leaf where it occurs in a rope.
type leaf struct {
	text string
	path string // the handles from the root to it
}

// answer is what the functions return for one number: the results in the order of the chapter.
type answer struct {
	text                            string
	rest                            int
	path                            string
	b                               byte
	rune, runesBefore, line, lineOf int
	is                              bool
	errors                          [7]api.Errno
}

// all is seven times the same error.
func all(e api.Errno) (l [7]api.Errno) {
	for i := range l {
		l[i] = e
	}
	return l
}

// known is a rope together with its text and what the definitions say about it.
type known struct {
	root   api.Root
	text   string
	leaf   []leaf // of each byte
	rest   []int  // of each byte: its offset in its leaf
	starts []int  // the offsets at which runes begin
	begins []int  // the offsets at which lines begin
	runes  []int  // for each offset: how many runes begin before it
	feeds  []int  // for each offset: how many line feeds are before it
}

// isContinuation tells whether a byte is a continuation byte.
func isContinuation(b byte) bool { return 128 <= b && b <= 191 }

// knownAs is a rope of which the text is known, and of which the leaves are in the arena.
func (w *world) knownAs(root api.Root, text string) *known {
	w.t.Helper()
	k := &known{root: root, text: text, begins: []int{0}}
	for _, l := range w.leaves(root) {
		for i := range len(l.text) {
			k.leaf, k.rest = append(k.leaf, l), append(k.rest, i)
		}
	}
	for at, b := range []byte(text) {
		k.runes, k.feeds = append(k.runes, len(k.starts)), append(k.feeds, len(k.begins)-1)
		if !isContinuation(b) {
			k.starts = append(k.starts, at)
		}
		if b == 10 {
			k.begins = append(k.begins, at+1)
		}
	}
	k.runes, k.feeds = append(k.runes, len(k.starts)), append(k.feeds, len(k.begins)-1)
	if m := (api.Measure{Bytes: len(text), Runes: len(k.starts), Lines: len(k.begins) - 1}); m != root.M || len(k.leaf) != len(text) {
		w.t.Fatalf("the rope %v of %q, which has the measure %v, has %d bytes in its leaves", root, text, m, len(k.leaf))
	}
	return k
}

// leaves are the leaves of a rope from left to right, as the arena has them.
func (w *world) leaves(root api.Root) []leaf {
	w.t.Helper()
	if root == (api.Root{}) {
		return nil
	}
	var l []leaf
	var walk func(at api.Handle, path []api.Handle)
	walk = func(at api.Handle, path []api.Handle) {
		path = append(slices.Clone(path), at)
		x, e := w.a.Get(at)
		if e != api.OK {
			w.t.Fatalf("Get(%s): %d", names(path), e)
		}
		if x.Height == 0 {
			l = append(l, leaf{x.Text, names(path)})
		}
		for _, kid := range x.Kids {
			walk(kid.At, path)
		}
	}
	walk(root.At, nil)
	return l
}

// names are the text forms of handles.
func names(l []api.Handle) string {
	var s []string
	for _, h := range l {
		s = append(s, fmt.Sprintf("%d.%d", h%65536, h/65536))
	}
	return strings.Join(s, " ")
}

// has is what the promises say for a number.
func (k *known) has(n int) answer {
	w := answer{errors: all(api.ErrRange)}
	if 0 <= n && n < len(k.text) {
		w.text, w.rest, w.path, w.b = k.leaf[n].text, k.rest[n], k.leaf[n].path, k.text[n]
		w.errors[0], w.errors[1] = api.OK, api.OK
	}
	if 0 <= n && n <= len(k.starts) {
		w.rune = slices.Concat(k.starts, []int{len(k.text)})[n]
		w.errors[2] = api.OK
	}
	if 0 <= n && n <= len(k.text) {
		w.runesBefore, w.lineOf = k.runes[n], k.feeds[n]
		w.is = n == len(k.text) || !isContinuation(k.text[n])
		w.errors[3], w.errors[5], w.errors[6] = api.OK, api.OK, api.OK
	}
	if 0 <= n && n < len(k.begins) {
		w.line = k.begins[n]
		w.errors[4] = api.OK
	}
	return w
}

// extremes are numbers far beyond the ends of a rope.
var extremes = []int{math.MinInt, math.MinInt + 1, math.MinInt32, -65536, -17, -2, 65536, 65537, 1 << 20, math.MaxInt32, math.MaxInt32 + 1, math.MaxInt - 1, math.MaxInt}

// numbers are all that is worth asking about a rope: each one from -1 to two more than it has bytes, and some far off.
func (k *known) numbers() []int {
	l := slices.Clone(extremes)
	for n := -1; n < len(k.text)+3; n++ {
		l = append(l, n)
	}
	return l
}

// world is an arena, and what it was when no more was written to it.
type world struct {
	t     *testing.T
	a     *arena.Arena
	stats api.Stats
	nodes []string
	slots string
}

// start makes an empty arena.
func start(t *testing.T, slots int) *world {
	t.Helper()
	a, e := arena.New(slots, 3)
	if e != api.OK {
		t.Fatalf("arena.New(%d): %d", slots, e)
	}
	return &world{t: t, a: a}
}

// dump prints all that is in the arena.
func (w *world) dump() (nodes []string, slots string) {
	for _, h := range w.a.Handles() {
		x, e := w.a.Get(h)
		nodes = append(nodes, fmt.Sprintf("%d: %+v, %d", h, x, e))
	}
	free, gone := w.a.Slots()
	return nodes, fmt.Sprint(free, gone)
}

// still is called when all is written: from here on nothing is to change.
func (w *world) still() {
	w.stats = w.a.Stats()
	w.nodes, w.slots = w.dump()
}

// ends checks that the arena is as it was.
func (w *world) ends() {
	w.t.Helper()
	nodes, slots := w.dump()
	if w.a.Stats() != w.stats || slots != w.slots || !slices.Equal(nodes, w.nodes) {
		w.t.Fatalf("the arena became %+v, %s, %q; want %+v, %s, %q", w.a.Stats(), slots, nodes, w.stats, w.slots, w.nodes)
	}
}

// counted checks that a call has done nothing but to count as many stale accesses.
func (w *world) counted(call string, n, stale int) {
	w.t.Helper()
	w.stats.Stale += stale
	if s := w.a.Stats(); s != w.stats {
		w.t.Fatalf("%s(%d): the arena became %+v; want %+v", call, n, s, w.stats)
	}
}

// asks calls all functions, each of which is to count as many stale accesses.
func (w *world) asks(root api.Root, n, stale int) answer {
	w.t.Helper()
	var r answer
	var path []api.Handle
	r.text, r.rest, path, r.errors[0] = seek.Leaf(w.a, root, n)
	w.counted("Leaf", n, stale)
	r.path = names(path)
	_, _, other, _ := seek.Leaf(w.a, root, n)
	w.counted("Leaf", n, stale)
	// What was returned is the caller's, and no other result shares it.
	for i := range path[:cap(path)] {
		path[:cap(path)][i] = 77
	}
	if names(other) != r.path {
		w.t.Fatalf("Leaf(%d) of %v: another path became %s; want %s", n, root, names(other), r.path)
	}
	r.b, r.errors[1] = seek.Byte(w.a, root, n)
	w.counted("Byte", n, stale)
	r.rune, r.errors[2] = seek.Rune(w.a, root, n)
	w.counted("Rune", n, stale)
	r.runesBefore, r.errors[3] = seek.RunesBefore(w.a, root, n)
	w.counted("RunesBefore", n, stale)
	r.line, r.errors[4] = seek.Line(w.a, root, n)
	w.counted("Line", n, stale)
	r.lineOf, r.errors[5] = seek.LineOf(w.a, root, n)
	w.counted("LineOf", n, stale)
	r.is, r.errors[6] = seek.Boundary(w.a, root, n)
	w.counted("Boundary", n, stale)
	return r
}

// holds checks what all functions return for these numbers.
func (w *world) holds(k *known, numbers ...int) {
	w.t.Helper()
	for _, n := range numbers {
		if got, want := w.asks(k.root, n, 0), k.has(n); got != want {
			w.t.Fatalf("%d in %v, %.200q:\n%+v; want\n%+v", n, k.root, k.text, got, want)
		}
	}
}

// refuses checks that all functions return the error of a root, for any number, and nothing beside it.
func (w *world) refuses(root api.Root, e api.Errno, stale int) {
	w.t.Helper()
	numbers := slices.Concat(extremes, []int{-1, 0, 1, 8, 16, root.M.Bytes - 1, root.M.Bytes, root.M.Bytes + 1, root.M.Runes, root.M.Runes + 1, root.M.Lines, root.M.Lines + 1})
	for _, n := range numbers {
		if got, want := w.asks(root, n, stale), (answer{errors: all(e)}); got != want {
			w.t.Fatalf("%d in %v: %+v; want %+v", n, root, got, want)
		}
	}
}

// makes writes the rope that rope.New makes of a text.
func (w *world) makes(text string) *known {
	w.t.Helper()
	root, e := rope.New(w.a, text)
	if e != api.OK {
		w.t.Fatalf("rope.New of %d bytes: %d", len(text), e)
	}
	return w.knownAs(root, text)
}

// writes writes a plan.
func (w *world) writes(x api.Tree, text string) *known {
	w.t.Helper()
	root, _, e := rope.Write(w.a, x)
	if e != api.OK {
		w.t.Fatalf("rope.Write of %d bytes: %d", len(text), e)
	}
	return w.knownAs(root, text)
}

// frees frees a rope.
func (w *world) frees(k *known) {
	w.t.Helper()
	if _, e := rope.Free(w.a, k.root); e != api.OK {
		w.t.Fatalf("rope.Free of %v: %d", k.root, e)
	}
}

// keeps is the plan that keeps a rope.
func (k *known) keeps() api.Tree {
	return api.Tree{Old: k.root.At, Height: k.root.Height, M: k.root.M}
}

// leafOf is a new leaf.
func leafOf(text string) api.Tree { return api.Tree{Text: text} }

// innerOf is a new inner node.
func innerOf(kids ...api.Tree) api.Tree {
	return api.Tree{Height: kids[0].Height + 1, Kids: kids}
}

// leavesOf is a text in new leaves, of which size tells the bytes of the next one, unless it would leave too few.
func leavesOf(text string, size func() int) []api.Tree {
	var l []api.Tree
	for len(text) > 0 {
		n := min(size(), len(text))
		switch {
		case len(text)-n >= api.MinLeaf:
		case len(text) <= api.MaxLeaf:
			n = len(text)
		default:
			n = len(text) / 2
		}
		l = append(l, leafOf(text[:n]))
		text = text[n:]
	}
	return l
}

// grouped is a plan over nodes of the same height, of which count tells how many the next inner node has, unless it would leave too few.
func grouped(level []api.Tree, count func() int) api.Tree {
	for len(level) > 1 {
		var above []api.Tree
		for len(level) > 0 {
			n := min(count(), len(level))
			switch {
			case len(level)-n != 1:
			case len(level) <= api.MaxKids:
				n = len(level)
			default:
				n--
			}
			above = append(above, innerOf(level[:n]...))
			level = level[n:]
		}
		level = above
	}
	return level[0]
}

// changed is a rope with n bytes replaced, written beside it.
func (w *world) changed(k *known, at, n int, s string) *known {
	w.t.Helper()
	x, e := plan.Replace(w.a, k.keeps(), at, n, s)
	if e != api.OK {
		w.t.Fatalf("plan.Replace(%d, %d, %q) of %v: %d", at, n, s, k.root, e)
	}
	return w.writes(x, k.text[:at]+s+k.text[at+n:])
}

// texts are texts of n bytes of several sorts.
func texts(n int) []string {
	r := rand.New(rand.NewSource(int64(n)))
	random := make([]byte, n)
	for i := range random {
		random[i] = byte(r.Intn(256))
		if r.Intn(4) == 0 {
			random[i] = "\n\n\x80\xbf\x7f\xc0"[r.Intn(6)]
		}
	}
	long := func(s string) string { return strings.Repeat(s, n/len(s)+1) }
	return []string{
		string(random),
		long("abcdefghijklmnopqrstuvwxyz")[:n],                 // without a line feed
		long("a\xc3\xb1\xe2\x82\xac\n\xf0\x9f\x99\x82b\n")[:n], // runes of one to four bytes
		long("\xf0\x9f\x99\x82")[:n],                           // runes of four bytes alone
		("\xf0" + long("\x9f\x99\x82\xf0"))[:n],
		long("\n")[:n],
		long("\x80\xbf")[:n], // no rune at all
		("\n" + long("\xe2\x82\xacabc"))[:n],
		long("\n\x80\x81")[:n],
	}
}
