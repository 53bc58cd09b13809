package plan_test

import (
	"fmt"
	"math"
	"math/rand"
	"slices"
	"strings"
	"testing"

	"quarto/api"
	"quarto/arena"
	"quarto/plan"
)

// This file has what the tests share: arenas with ropes of all sorts, plans over them, and the definitions of S5 and of the chapter, by which plans are merged and cut together with everything below their kept nodes.

const (
	shortest = 8 // bytes of a leaf that is a child
	longest  = 16
	fewest   = 2 // children
	manyKids = 4
	highest  = 16
	mostText = 65536
)

// full is a plan together with everything below its kept nodes. The empty plan is nil.
type full struct {
	old    api.Handle // 0 if it is new
	height int
	text   string
	m      api.Measure
	kids   []*full
}

// measured is the measure of a text, byte by byte.
func measured(text string) api.Measure {
	var m api.Measure
	for _, b := range []byte(text) {
		m.Bytes++
		if b < 128 || b > 191 {
			m.Runes++
		}
		if b == 10 {
			m.Lines++
		}
	}
	return m
}

// newLeaf is a new leaf.
func newLeaf(text string) *full { return &full{text: text, m: measured(text)} }

// newInner is a new inner node.
func newInner(kids ...*full) *full {
	f := &full{height: kids[0].height + 1, kids: slices.Clone(kids)}
	for _, k := range kids {
		f.text += k.text
		f.m = api.Measure{Bytes: f.m.Bytes + k.m.Bytes, Runes: f.m.Runes + k.m.Runes, Lines: f.m.Lines + k.m.Lines}
	}
	return f
}

// textOf is the text of a plan.
func (f *full) textOf() string {
	if f == nil {
		return ""
	}
	return f.text
}

// tree is the plan without what is below its kept nodes.
func (f *full) tree() api.Tree {
	switch {
	case f == nil:
		return api.Tree{}
	case f.old != 0:
		return api.Tree{Old: f.old, Height: f.height, M: f.m}
	case f.height == 0:
		return api.Tree{Text: f.text}
	}
	return api.Tree{Height: f.height, Kids: trees(f.kids...)}
}

// trees are plans without what is below their kept nodes.
func trees(l ...*full) []api.Tree {
	var all []api.Tree
	for _, f := range l {
		all = append(all, f.tree())
	}
	return all
}

// handles are the handles that a plan contains, in preorder, each once.
func (f *full) handles() []api.Handle {
	var l []api.Handle
	seen := map[api.Handle]bool{0: true}
	todo := []*full{f}
	for len(todo) > 0 {
		x := todo[0]
		todo = todo[1:]
		if x == nil {
			continue
		}
		if !seen[x.old] {
			seen[x.old] = true
			l = append(l, x.old)
		}
		todo = slices.Concat(x.kids, todo)
	}
	return l
}

// grouped is Group of S5.
func grouped(kids ...*full) *full {
	if len(kids) == 0 {
		return nil
	}
	if len(kids) == 1 {
		return kids[0]
	}
	return newInner(kids...)
}

// halved are one new inner node, or two.
func halved(kids ...*full) []*full {
	if len(kids) <= manyKids {
		return []*full{newInner(kids...)}
	}
	half := len(kids) - len(kids)/2
	return []*full{newInner(kids[:half]...), newInner(kids[half:]...)}
}

// merged is Merge of S5.
func merged(x, y *full) []*full {
	switch {
	case x.height > y.height:
		n := len(x.kids)
		return halved(slices.Concat(x.kids[:n-1], merged(x.kids[n-1], y))...)
	case y.height > x.height:
		return halved(slices.Concat(merged(x, y.kids[0]), y.kids[1:])...)
	case x.height == 0:
		both := x.text + y.text
		half := len(both) - len(both)/2
		switch {
		case len(both) <= longest:
			return []*full{newLeaf(both)}
		case len(x.text) >= shortest && len(y.text) >= shortest:
			return []*full{x, y}
		}
		return []*full{newLeaf(both[:half]), newLeaf(both[half:])}
	case len(x.kids)+len(y.kids) <= manyKids:
		return []*full{newInner(slices.Concat(x.kids, y.kids)...)}
	}
	return []*full{x, y}
}

// joined is Concat of S5.
func joined(x, y *full) *full {
	if x == nil {
		return y
	}
	if y == nil {
		return x
	}
	l := merged(x, y)
	if len(l) == 1 {
		return l[0]
	}
	return newInner(l...)
}

// divided is Cut of S5.
func divided(x *full, at int) (l, r *full) {
	switch {
	case at == 0:
		return nil, x
	case at == len(x.text):
		return x, nil
	case x.height == 0:
		return newLeaf(x.text[:at]), newLeaf(x.text[at:])
	}
	last, begin := 0, 0
	for i, sum := 0, 0; i < len(x.kids); i++ {
		if sum <= at {
			last, begin = i, sum
		}
		sum += len(x.kids[i].text)
	}
	before, after := x.kids[:last], x.kids[last+1:]
	if begin == at {
		return grouped(before...), grouped(slices.Concat([]*full{x.kids[last]}, after)...)
	}
	l, r = divided(x.kids[last], at-begin)
	return joined(grouped(before...), l), joined(r, grouped(after...))
}

// dealt are n nodes or bytes in as few groups as can be, to which they are dealt one by one.
func dealt(n, most int) []int {
	count := 0
	for left := n; left > 0; left -= most {
		count++
	}
	sizes := make([]int, count)
	for i := range n {
		sizes[i%count]++
	}
	return sizes
}

// built is Build of S5, for strings of any length.
func built(s string) *full {
	var level []*full
	for _, n := range dealt(len(s), longest) {
		level = append(level, newLeaf(s[:n]))
		s = s[n:]
	}
	for len(level) > 1 {
		var above []*full
		for _, n := range dealt(len(level), manyKids) {
			above = append(above, newInner(level[:n]...))
			level = level[n:]
		}
		level = above
	}
	return grouped(level...)
}

// replaced is what P15.4 says of Replace.
func replaced(x *full, at, n int, s string) *full {
	if n == 0 && s == "" {
		return x
	}
	l, m := divided(x, at)
	_, r := divided(m, n)
	return joined(joined(l, built(s)), r)
}

// world is an arena, together with what was written to it.
type world struct {
	t     *testing.T
	a     *arena.Arena
	fulls map[api.Handle]*full // of all handles that were given out
	freed map[api.Handle]bool
	at    []api.Handle // in the order in which they were given out
	stats api.Stats    // after the last call
	bytes int          // that texts were made of
}

// start makes an empty arena.
func start(t *testing.T, slots int, gens uint64) *world {
	t.Helper()
	a, e := arena.New(slots, gens)
	if e != api.OK {
		t.Fatalf("arena.New(%d, %d): %d", slots, gens, e)
	}
	return &world{t: t, a: a, fulls: map[api.Handle]*full{}, freed: map[api.Handle]bool{}, stats: a.Stats()}
}

// text is a text of n bytes that no other one resembles, with bytes of all sorts.
func (w *world) text(n int) string {
	s := make([]byte, n)
	for i := range s {
		w.bytes++
		s[i] = byte((w.bytes*w.bytes/7 + w.bytes*89) % 256)
		if w.bytes%5 == 0 {
			s[i] = "\n\x80a\xe2\xff"[w.bytes/5%5]
		}
	}
	return string(s)
}

// write writes the new nodes of a plan to the arena in postorder, and returns the plan that keeps the rope.
func (w *world) write(f *full) *full {
	w.t.Helper()
	if f == nil || f.old != 0 {
		return f
	}
	written := &full{height: f.height, text: f.text, m: f.m}
	x := api.Node{Height: f.height}
	if f.height == 0 {
		x.Text = f.text
	}
	for _, k := range f.kids {
		kid := w.write(k)
		written.kids = append(written.kids, kid)
		x.Kids = append(x.Kids, api.Kid{At: kid.old, M: kid.m})
	}
	h, e := w.a.Alloc(x)
	if e != api.OK {
		w.t.Fatalf("Alloc(%v): %d", x, e)
	}
	written.old = h
	w.fulls[h] = written
	w.at = append(w.at, h)
	w.stats = w.a.Stats()
	return written
}

// leaf writes a leaf of n bytes.
func (w *world) leaf(n int) *full { return w.write(newLeaf(w.text(n))) }

// inner writes an inner node.
func (w *world) inner(kids ...*full) *full { return w.write(newInner(kids...)) }

// free frees a node, whether others have it as a child or not.
func (w *world) free(f *full) {
	w.t.Helper()
	if e := w.a.Free(f.old); e != api.OK {
		w.t.Fatalf("Free(%d): %d", f.old, e)
	}
	w.freed[f.old] = true
	w.stats = w.a.Stats()
}

// isLive tells whether a handle is live.
func (w *world) isLive(h api.Handle) bool { return w.fulls[h] != nil && !w.freed[h] }

// full adds to a valid plan what is below its kept nodes.
func (w *world) full(t api.Tree) *full {
	switch {
	case t.Old != 0:
		return w.fulls[t.Old]
	case t.Text != "":
		return newLeaf(t.Text)
	case len(t.Kids) == 0:
		return nil
	}
	var kids []*full
	for _, k := range t.Kids {
		kids = append(kids, w.full(k))
	}
	return newInner(kids...)
}

// root is the root of a rope.
func (f *full) root() api.Root {
	if f == nil {
		return api.Root{}
	}
	return api.Root{At: f.old, Height: f.height, M: f.m}
}

// isEmpty tells whether a plan is empty.
func isEmpty(t api.Tree) bool {
	return t.Old == 0 && t.Height == 0 && t.M == api.Measure{} && t.Text == "" && len(t.Kids) == 0
}

// isNode tells whether a node is of one of the three kinds.
func isNode(t api.Tree) bool {
	kept := t.Old != 0 && t.Text == "" && len(t.Kids) == 0
	isNew := t.Old == 0 && t.M == api.Measure{}
	leaf := isNew && t.Height == 0 && t.Text != "" && len(t.Text) <= longest && len(t.Kids) == 0
	inner := isNew && t.Height >= 1 && t.Height <= highest && t.Text == "" && len(t.Kids) >= fewest && len(t.Kids) <= manyKids
	return kept || leaf || inner
}

// refused is the error of Check, with the number of stale accesses that it counts.
func (w *world) refused(t api.Tree) (e api.Errno, stale int) {
	type place struct {
		api.Tree
		isKid bool
		above int
	}
	if isEmpty(t) {
		return api.OK, 0
	}
	bytes := 0
	todo := []place{{Tree: t}}
	for len(todo) > 0 {
		x := todo[len(todo)-1]
		todo = todo[:len(todo)-1]
		if !isNode(x.Tree) || x.isKid && x.Height != x.above-1 {
			return api.ErrShape, 0
		}
		if x.Old != 0 && !w.isLive(x.Old) {
			return api.ErrStale, 1
		}
		if x.Old != 0 && (w.fulls[x.Old].height != x.Height || w.fulls[x.Old].m != x.M) {
			return api.ErrShape, 0
		}
		if x.isKid && x.Height == 0 && x.M.Bytes+len(x.Text) < shortest {
			return api.ErrShape, 0
		}
		bytes += x.M.Bytes + len(x.Text)
		for _, k := range slices.Backward(x.Kids) {
			todo = append(todo, place{k, true, x.Height})
		}
	}
	if bytes > mostText {
		return api.ErrLong, 0
	}
	return api.OK, 0
}

// same tells whether two plans are equal, a nil list of Kids being an empty one.
func same(x, y api.Tree) bool {
	return x.Old == y.Old && x.Height == y.Height && x.M == y.M && x.Text == y.Text && slices.EqualFunc(x.Kids, y.Kids, same)
}

// show prints a plan, and of a long one the beginning.
func show(l ...api.Tree) string {
	var texts []string
	for _, t := range l {
		s := fmt.Sprintf("{old %d.%d, height %d, %v, %.20q, %d kids}", t.Old%65536, t.Old/65536, t.Height, t.M, t.Text, len(t.Kids))
		switch {
		case isEmpty(t):
			s = "empty"
		case isNode(t) && t.Old != 0:
			s = fmt.Sprintf("kept %d.%d of height %d and %d bytes", t.Old%65536, t.Old/65536, t.Height, t.M.Bytes)
		case isNode(t) && t.Text != "":
			s = fmt.Sprintf("%q", t.Text)
		case isNode(t):
			s = fmt.Sprintf("%d:", t.Height) + show(t.Kids...)
		}
		texts = append(texts, s)
	}
	s := "(" + strings.Join(texts, "; ") + ")"
	if len(s) > 400 {
		return s[:400] + ".."
	}
	return s
}

// junk is what lies behind the Kids of the plans that are passed.
var junk = api.Tree{Old: 77, Height: 7, M: api.Measure{Bytes: 7}, Text: "behind the end", Kids: []api.Tree{}}

// roomy are copies of plans, with room behind each list of Kids.
func roomy(l ...api.Tree) []api.Tree {
	all := make([]api.Tree, 0, len(l)+2)
	for _, t := range l {
		if len(t.Kids) > 0 {
			t.Kids = roomy(t.Kids...)
		}
		all = append(all, t)
	}
	for i := len(all); i < cap(all); i++ {
		all[:cap(all)][i] = junk
	}
	return all
}

// inRoom checks that roomy copies of plans are as they were made, and so is the room.
func inRoom(copies, l []api.Tree) bool {
	if len(copies) != len(l) {
		return false
	}
	for _, t := range copies[len(l):cap(copies)] {
		if !same(t, junk) {
			return false
		}
	}
	for i, t := range l {
		x := copies[i]
		if x.Old != t.Old || x.Height != t.Height || x.M != t.M || x.Text != t.Text || len(x.Kids) != len(t.Kids) || len(t.Kids) > 0 && !inRoom(x.Kids, t.Kids) {
			return false
		}
	}
	return true
}

// places adds the places in memory of all Kids of plans, also beyond their length, and tells whether one of them was there already.
func places(of map[*api.Tree]bool, l ...api.Tree) (shared bool) {
	for _, t := range l {
		for i := range t.Kids[:cap(t.Kids)] {
			p := &t.Kids[:cap(t.Kids)][i]
			shared = shared || of[p]
			of[p] = true
		}
		shared = places(of, t.Kids...) || shared
	}
	return shared
}

// spoil writes over all of the Kids of plans, also beyond their length.
func spoil(l ...api.Tree) {
	for _, t := range l {
		spoil(t.Kids...)
		for i := range t.Kids[:cap(t.Kids)] {
			t.Kids[:cap(t.Kids)][i] = api.Tree{Old: 78, Text: "spoiled"}
		}
	}
}

// stays checks that the arena is as after the last call, but for as many stale accesses.
func (w *world) stays(call string, stale int) {
	w.t.Helper()
	w.stats.Stale += stale
	// Only Alloc and Free change an arena, and both are counted.
	if s := w.a.Stats(); s != w.stats {
		w.t.Fatalf("%s: the arena became %+v; want %+v", call, s, w.stats)
	}
}

// call calls f, which returns plans, twice with the same arguments. It checks what is returned, that the arguments and the arena stay as they were, and that no memory is shared.
func (w *world) call(call string, args []api.Tree, f func(l []api.Tree) ([]api.Tree, api.Errno), want []api.Tree, e api.Errno, stale int) {
	w.t.Helper()
	passed := roomy(args...)
	got, is := f(passed)
	again, _ := f(passed)
	call = call + show(args...)
	if is != e || !slices.EqualFunc(got, want, same) {
		w.t.Fatalf("%s: %s, %d; want %s, %d", call, show(got...), is, show(want...), e)
	}
	of := map[*api.Tree]bool{}
	places(of, passed...)
	if places(of, got...) || places(of, again...) {
		w.t.Fatalf("%s: memory is shared", call)
	}
	spoil(got...)
	if !inRoom(passed, args) || !slices.EqualFunc(again, want, same) {
		w.t.Fatalf("%s: the arguments became %s, and the second result is %s", call, show(passed...), show(again...))
	}
	w.stays(call, 2*stale)
}

// isCheck checks what Check returns.
func (w *world) isCheck(t api.Tree) {
	w.t.Helper()
	e, stale := w.refused(t)
	w.call("Check", []api.Tree{t}, func(l []api.Tree) ([]api.Tree, api.Errno) { return nil, plan.Check(w.a, l[0]) }, nil, e, stale)
}

// checks is isCheck where a certain error is to come, or none.
func (w *world) checks(t api.Tree, e api.Errno) {
	w.t.Helper()
	if is, _ := w.refused(t); is != e {
		w.t.Fatalf("Check%s: the definition gives %d; want %d", show(t), is, e)
	}
	w.isCheck(t)
}

// bothRefused is the first error of Check for two plans.
func (w *world) bothRefused(x, y api.Tree) (e api.Errno, stale int) {
	if e, stale = w.refused(x); e != api.OK {
		return e, stale
	}
	return w.refused(y)
}

// isMerge checks what Merge returns.
func (w *world) isMerge(x, y api.Tree) api.Errno {
	w.t.Helper()
	var want []api.Tree
	e, stale := w.bothRefused(x, y)
	if e == api.OK && (isEmpty(x) || isEmpty(y)) {
		e = api.ErrArg
	}
	if e == api.OK {
		l, r := w.full(x), w.full(y)
		if len(l.text)+len(r.text) > mostText {
			e = api.ErrLong
		} else {
			want = trees(merged(l, r)...)
			w.sound("Merge", l.text+r.text, max(l.height, r.height), want...)
			w.levels(x, y, want...)
		}
	}
	w.call("Merge", []api.Tree{x, y}, func(l []api.Tree) ([]api.Tree, api.Errno) { return plan.Merge(w.a, l[0], l[1]) }, want, e, stale)
	return e
}

// levels checks that Merge gives plans of the greater one of both heights.
func (w *world) levels(x, y api.Tree, l ...api.Tree) {
	w.t.Helper()
	for _, t := range l {
		if len(l) > 2 || t.Height != max(x.Height, y.Height) {
			w.t.Fatalf("Merge%s: %s", show(x, y), show(l...))
		}
	}
}

// isConcat checks what Concat returns.
func (w *world) isConcat(x, y api.Tree) api.Errno {
	w.t.Helper()
	want := api.Tree{}
	e, stale := w.bothRefused(x, y)
	if e == api.OK {
		l, r := w.full(x), w.full(y)
		if len(l.textOf())+len(r.textOf()) > mostText {
			e = api.ErrLong
		} else {
			want = joined(l, r).tree()
			w.sound("Concat", l.textOf()+r.textOf(), max(x.Height, y.Height)+1, want)
		}
	}
	w.call("Concat", []api.Tree{x, y}, func(l []api.Tree) ([]api.Tree, api.Errno) {
		t, e := plan.Concat(w.a, l[0], l[1])
		return []api.Tree{t}, e
	}, []api.Tree{want}, e, stale)
	return e
}

// isCut checks what Cut returns.
func (w *world) isCut(x api.Tree, at int) api.Errno {
	w.t.Helper()
	want := make([]api.Tree, 2)
	e, stale := w.refused(x)
	if e == api.OK {
		f := w.full(x)
		if at < 0 || at > len(f.textOf()) {
			e = api.ErrRange
		} else {
			l, r := divided(f, at)
			want = trees(l, r)
			w.sound("Cut", f.textOf()[:at], x.Height, want[0])
			w.sound("Cut", f.textOf()[at:], x.Height, want[1])
		}
	}
	w.call(fmt.Sprintf("Cut at %d of ", at), []api.Tree{x}, func(l []api.Tree) ([]api.Tree, api.Errno) {
		left, right, e := plan.Cut(w.a, l[0], at)
		return []api.Tree{left, right}, e
	}, want, e, stale)
	return e
}

// isReplace checks what Replace returns.
func (w *world) isReplace(x api.Tree, at, n int, s string) api.Errno {
	w.t.Helper()
	want := api.Tree{}
	e, stale := w.refused(x)
	if e == api.OK {
		f := w.full(x)
		text := f.textOf()
		switch {
		case at < 0 || at > len(text) || n < 0 || n > len(text)-at:
			e = api.ErrRange
		case len(text)-n+len(s) > mostText:
			e = api.ErrLong
		default:
			want = replaced(f, at, n, s).tree()
			w.sound("Replace", text[:at]+s+text[at+n:], highest, want)
			if fresh, most := count(want), 12*(x.Height+2)+count(built(s).tree()); x.Old != 0 && fresh > most {
				w.t.Fatalf("Replace of %d bytes at %d by %d of %s: %d new nodes, which are more than %d", n, at, len(s), show(x), fresh, most)
			}
		}
	}
	w.call(fmt.Sprintf("Replace of %d bytes at %d by %d of ", n, at, len(s)), []api.Tree{x}, func(l []api.Tree) ([]api.Tree, api.Errno) {
		t, e := plan.Replace(w.a, l[0], at, n, s)
		return []api.Tree{t}, e
	}, []api.Tree{want}, e, stale)
	return e
}

// sound checks that plans are valid and not too high, and that their texts make the text.
func (w *world) sound(call, text string, height int, l ...api.Tree) {
	w.t.Helper()
	all := ""
	for _, t := range l {
		if e, _ := w.refused(t); e != api.OK || t.Height > height {
			w.t.Fatalf("%s: %s is not valid (%d), or higher than %d", call, show(t), e, height)
		}
		all += w.full(t).textOf()
	}
	if all != text {
		w.t.Fatalf("%s: the text %.80q of %s; want %.80q", call, all, show(l...), text)
	}
}

// count is the number of new nodes of a plan.
func count(t api.Tree) int {
	n := 0
	if t.Text != "" || len(t.Kids) > 0 {
		n = 1
	}
	for _, k := range t.Kids {
		n += count(k)
	}
	return n
}

// keptOf are the handles of the kept nodes of a plan, each once.
func keptOf(t api.Tree) []api.Handle {
	var l []api.Handle
	if t.Old != 0 {
		l = append(l, t.Old)
	}
	for _, k := range t.Kids {
		for _, h := range keptOf(k) {
			if !slices.Contains(l, h) {
				l = append(l, h)
			}
		}
	}
	return l
}

// isCounted checks what New, Kept and Text return. What New and Kept return is only known for a valid plan.
func (w *world) isCounted(t api.Tree) {
	w.t.Helper()
	passed := roomy(t)
	e, stale := w.refused(t)
	n, kept, other := plan.New(passed[0]), plan.Kept(passed[0]), plan.Kept(passed[0])
	text, is := plan.Text(w.a, passed[0])
	spoilHandles(kept[:cap(kept)][len(kept):])
	if e == api.OK && (n != count(t) || !slices.Equal(kept, keptOf(t))) {
		w.t.Fatalf("%s: New %d, Kept %v; want %d, %v", show(t), n, kept, count(t), keptOf(t))
	}
	want := ""
	if e == api.OK {
		want = w.full(t).textOf()
	}
	if text != want || is != e {
		w.t.Fatalf("Text%s: %.80q, %d; want %.80q, %d", show(t), text, is, want, e)
	}
	spoilHandles(kept)
	if e == api.OK && !slices.Equal(other, keptOf(t)) {
		w.t.Fatalf("Kept%s: another result became %v", show(t), other)
	}
	if !inRoom(passed, []api.Tree{t}) {
		w.t.Fatalf("New, Kept or Text changed %s to %s", show(t), show(passed...))
	}
	w.stays("New, Kept or Text of "+show(t), stale)
}

// spoilHandles writes over all of a list, also beyond its length.
func spoilHandles(l []api.Handle) {
	for i := range l[:cap(l)] {
		l[:cap(l)][i] = 77
	}
}

// rootRefused is the error of the check of a root, with the number of stale accesses that it counts.
func (w *world) rootRefused(root api.Root) (e api.Errno, stale int) {
	switch {
	case root == (api.Root{}):
		return api.OK, 0
	case root.At == 0:
		return api.ErrArg, 0
	case !w.isLive(root.At):
		return api.ErrStale, 1
	case root != w.fulls[root.At].root():
		return api.ErrShape, 0
	}
	return api.OK, 0
}

// isKeep checks what Keep returns.
func (w *world) isKeep(root api.Root) {
	w.t.Helper()
	e, stale := w.rootRefused(root)
	want := api.Tree{}
	if e == api.OK {
		want = api.Tree{Old: root.At, Height: root.Height, M: root.M}
	}
	w.call(fmt.Sprintf("Keep(%v) ", root), nil, func([]api.Tree) ([]api.Tree, api.Errno) {
		t, e := plan.Keep(w.a, root)
		return []api.Tree{t}, e
	}, []api.Tree{want}, e, stale)
}

// isDropped checks what Dropped returns.
func (w *world) isDropped(root api.Root, t api.Tree) api.Errno {
	w.t.Helper()
	var want []api.Handle
	e, stale := w.rootRefused(root)
	if e == api.OK {
		e, stale = w.refused(t)
	}
	if e == api.OK {
		contained := w.full(t).handles()
		for _, h := range w.fulls[root.At].handles() {
			if !slices.Contains(contained, h) {
				want = append(want, h)
			}
		}
	}
	passed := roomy(t)
	got, is := plan.Dropped(w.a, root, passed[0])
	again, _ := plan.Dropped(w.a, root, passed[0])
	if is != e || !slices.Equal(got, want) {
		w.t.Fatalf("Dropped(%v, %s): %v, %d; want %v, %d", root, show(t), got, is, want, e)
	}
	spoilHandles(got)
	if !inRoom(passed, []api.Tree{t}) || !slices.Equal(again, want) {
		w.t.Fatalf("Dropped(%v, %s): the plan became %s, and the second result is %v", root, show(t), show(passed...), again)
	}
	w.stays("Dropped", 2*stale)
	return e
}

// ends checks at the end of a test that all nodes of the arena are as they were written, and its slots as they were.
func (w *world) ends() {
	w.t.Helper()
	var live []api.Handle
	for _, h := range w.at {
		if !w.isLive(h) {
			continue
		}
		live = append(live, h)
		x, e := w.a.Get(h)
		f := w.fulls[h]
		if e != api.OK || x.Height != f.height || x.Text != f.text && x.Height == 0 || len(x.Kids) != len(f.kids) {
			w.t.Fatalf("the node %d became %v, %d", h, x, e)
		}
		for i, k := range x.Kids {
			if k.At != f.kids[i].old || k.M != f.kids[i].m {
				w.t.Fatalf("the node %d became %v", h, x)
			}
		}
	}
	slices.SortFunc(live, func(x, y api.Handle) int { return int(x%65536) - int(y%65536) })
	if got := w.a.Handles(); !slices.Equal(got, live) {
		w.t.Fatalf("the live handles became %v; want %v", got, live)
	}
}

// mixed is an arena with ropes of all sorts: leaves that are short and not, and inner nodes of 2 to 4 children and of some heights, as light and as heavy as can be, some with a child twice. Some nodes were freed.
func mixed(t *testing.T) *world {
	w := start(t, 400, 3)
	var leaves []*full
	for _, n := range []int{1, 7} {
		w.leaf(n)
	}
	for n := shortest; n <= longest; n++ {
		leaves = append(leaves, w.leaf(n))
	}
	light, heavy, some := leaves[0], leaves[8], leaves[3]
	row := []*full{w.inner(light, light), w.inner(heavy, heavy, heavy, heavy), w.inner(some, light, heavy), w.inner(leaves[1], leaves[2], leaves[4], leaves[7]), w.inner(heavy, light)}
	gone := []*full{w.leaf(3), w.leaf(12), w.inner(light, heavy), w.leaf(9)}
	w.free(gone[0])
	w.free(gone[1])
	above := []*full{w.inner(row[0], row[0]), w.inner(row[1], row[3], row[1], row[1]), w.inner(row[2], row[0], row[4]), w.inner(row[3], row[4])}
	w.free(gone[2])
	w.free(gone[3])
	w.inner(above[0], above[0])
	w.inner(above[0], above[2], above[3], above[0])
	w.write(built(w.text(17)))
	w.write(built(w.text(150)))
	w.inner(w.write(built(w.text(64))), w.write(newInner(newLeaf(w.text(8)), heavy)))
	return w
}

// kept are the plans that keep the live nodes of a height, or of all heights if it is -1.
func (w *world) kept(height int) []api.Tree {
	var l []api.Tree
	for _, h := range w.at {
		if w.isLive(h) && (height == -1 || w.fulls[h].height == height) {
			l = append(l, w.fulls[h].tree())
		}
	}
	return l
}

// lowest are new leaves of each length, one of them with an empty list of Kids.
func (w *world) lowest() []api.Tree {
	var l []api.Tree
	for n := 1; n <= longest; n++ {
		l = append(l, api.Tree{Text: w.text(n)})
	}
	return append(l, api.Tree{Text: w.text(12), Kids: []api.Tree{}})
}

// random is a valid plan of a height over the nodes of the arena, and not a short leaf.
func (w *world) random(r *rand.Rand, height int) api.Tree {
	kept := slices.DeleteFunc(w.kept(height), func(t api.Tree) bool { return t.M.Bytes < shortest })
	if len(kept) > 0 && r.Intn(3) > 0 {
		return kept[r.Intn(len(kept))]
	}
	if height == 0 {
		return api.Tree{Text: w.text(shortest + r.Intn(longest-shortest+1))}
	}
	t := api.Tree{Height: height}
	for range fewest + r.Intn(manyKids-fewest+1) {
		t.Kids = append(t.Kids, w.random(r, height-1))
	}
	return t
}

// ordinary are plans of all sorts over the nodes of the arena: the empty one, those that keep a node, new leaves, and new inner nodes over both.
func (w *world) ordinary() []api.Tree {
	r := rand.New(rand.NewSource(15))
	l := slices.Concat([]api.Tree{{}, {Kids: []api.Tree{}}}, w.kept(-1), w.lowest())
	for height := 1; height <= 4; height++ {
		for range 4 {
			l = append(l, w.random(r, height))
		}
	}
	for _, n := range []int{17, 65, 200} {
		l = append(l, built(w.text(n)).tree())
	}
	return l
}

// strange are numbers that are no offsets of texts of at most 1,000 bytes.
func strange() []int {
	return []int{-1, -2, -9, math.MinInt32, -1 << 32, -1<<32 + 9, math.MinInt, math.MinInt + 1, math.MinInt + 9, 1 << 16, 1 << 32, 1<<32 + 9, math.MaxInt32, math.MaxInt - 9, math.MaxInt - 1, math.MaxInt}
}

// doubled is a node of a height that has one leaf of 8 bytes again and again, all new.
func doubled(leaf api.Tree, height int) api.Tree {
	for h := 1; h <= height; h++ {
		leaf = api.Tree{Height: h, Kids: []api.Tree{leaf, leaf}}
	}
	return leaf
}
