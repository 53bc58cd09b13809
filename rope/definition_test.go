package rope_test

import (
	"fmt"
	"math"
	"math/rand"
	"slices"
	"strings"
	"testing"

	"quarto/api"
	"quarto/arena"
	"quarto/rope"
)

// This file has what the tests share: an arena together with a model of it, which knows its slots and what was written to them, and the definitions of the chapter, against which each call is held.

const (
	shortest = 8 // bytes of a leaf that is a child
	longest  = 16
	fewest   = 2 // children
	manyKids = 4
	highest  = 16
	mostText = 65536
)

// full is a rope or a plan together with everything below its kept nodes. The empty one is nil.
type full struct {
	at     api.Handle // 0 as long as it is not written
	height int
	text   string
	m      api.Measure
	kids   []*full
}

// measured is the measure of a text, byte by byte.
func measured(text string) api.Measure {
	var m api.Measure
	for _, b := range []byte(text) {
		m.Bytes++
		if b < 128 || b > 191 {
			m.Runes++
		}
		if b == 10 {
			m.Lines++
		}
	}
	return m
}

// newLeaf is a new leaf.
func newLeaf(text string) *full { return &full{text: text, m: measured(text)} }

// newInner is a new inner node.
func newInner(kids ...*full) *full {
	f := &full{height: kids[0].height + 1, kids: slices.Clone(kids)}
	var text strings.Builder
	for _, k := range kids {
		text.WriteString(k.text)
		f.m = api.Measure{Bytes: f.m.Bytes + k.m.Bytes, Runes: f.m.Runes + k.m.Runes, Lines: f.m.Lines + k.m.Lines}
	}
	f.text = text.String()
	return f
}

// textOf is the text of a rope.
func (f *full) textOf() string {
	if f == nil {
		return ""
	}
	return f.text
}

// root is the root of a rope.
func (f *full) root() api.Root {
	if f == nil {
		return api.Root{}
	}
	return api.Root{At: f.at, Height: f.height, M: f.m}
}

// keeps is the plan that keeps a rope.
func (f *full) keeps() api.Tree {
	if f == nil {
		return api.Tree{}
	}
	return api.Tree{Old: f.at, Height: f.height, M: f.m}
}

// preorder are the nodes of a rope in preorder, each as often as it occurs.
func (f *full) preorder() []*full {
	if f == nil {
		return nil
	}
	l := []*full{f}
	for _, k := range f.kids {
		l = append(l, k.preorder()...)
	}
	return l
}

// unwritten are the new nodes of a plan in postorder.
func (f *full) unwritten() []*full {
	if f == nil || f.at != 0 {
		return nil
	}
	var l []*full
	for _, k := range f.kids {
		l = append(l, k.unwritten()...)
	}
	return append(l, f)
}

// dealt are n nodes or bytes in as few groups as can be, to which they are dealt one by one.
func dealt(n, most int) []int {
	count := 0
	for left := n; left > 0; left -= most {
		count++
	}
	sizes := make([]int, count)
	for i := range n {
		sizes[i%count]++
	}
	return sizes
}

// built is the plan of a string.
func built(s string) *full {
	var level []*full
	for _, n := range dealt(len(s), longest) {
		level = append(level, newLeaf(s[:n]))
		s = s[n:]
	}
	for len(level) > 1 {
		var above []*full
		for _, n := range dealt(len(level), manyKids) {
			above = append(above, newInner(level[:n]...))
			level = level[n:]
		}
		level = above
	}
	if len(level) == 0 {
		return nil
	}
	return level[0]
}

// leafOf is a new leaf.
func leafOf(text string) api.Tree { return api.Tree{Text: text} }

// innerOf is a node with these Kids, valid or not.
func innerOf(height int, kids ...api.Tree) api.Tree { return api.Tree{Height: height, Kids: kids} }

// doubled is a node of a height that has one leaf again and again, all new.
func doubled(leaf api.Tree, height int) api.Tree {
	for h := 1; h <= height; h++ {
		leaf = innerOf(h, leaf, leaf)
	}
	return leaf
}

// isEmpty tells whether a plan is empty.
func isEmpty(t api.Tree) bool {
	return t.Old == 0 && t.Height == 0 && t.M == api.Measure{} && t.Text == "" && len(t.Kids) == 0
}

// isNode tells whether a node of a plan is of one of the three kinds.
func isNode(t api.Tree) bool {
	kept := t.Old != 0 && t.Text == "" && len(t.Kids) == 0
	isNew := t.Old == 0 && t.M == api.Measure{}
	leaf := isNew && t.Height == 0 && t.Text != "" && len(t.Text) <= longest && len(t.Kids) == 0
	inner := isNew && t.Height >= 1 && t.Height <= highest && t.Text == "" && len(t.Kids) >= fewest && len(t.Kids) <= manyKids
	return kept || leaf || inner
}

// world is an arena together with its model.
type world struct {
	t     *testing.T
	a     *arena.Arena
	gens  uint64
	stack []int                // the free slots, the next one first
	gave  []uint64             // how often each slot was freed
	fulls map[api.Handle]*full // what was written, also if it was freed
	live  map[api.Handle]bool
	at    []api.Handle // all that were given out, in this order
	calls api.Stats    // the numbers of calls alone
	bytes int          // that texts were made of
}

// start makes an empty arena.
func start(t *testing.T, slots int, gens uint64) *world {
	t.Helper()
	a, e := arena.New(slots, gens)
	if e != api.OK {
		t.Fatalf("arena.New(%d, %d): %d", slots, gens, e)
	}
	w := &world{t: t, a: a, gens: gens, gave: make([]uint64, slots), fulls: map[api.Handle]*full{}, live: map[api.Handle]bool{}}
	for slot := range slots {
		w.stack = append(w.stack, slot)
	}
	w.same("arena.New")
	return w
}

// text is a text of n bytes that no other one resembles, with bytes of all sorts.
func (w *world) text(n int) string {
	s := make([]byte, n)
	for i := range s {
		w.bytes++
		s[i] = byte((w.bytes*w.bytes/7 + w.bytes*89) % 256)
		if w.bytes%5 == 0 {
			s[i] = "\n\x80a\xe2\xff"[w.bytes/5%5]
		}
	}
	return string(s)
}

// takes is what the model does when a node is written.
func (w *world) takes(f *full) api.Handle {
	slot := w.stack[0]
	w.stack = w.stack[1:]
	f.at = api.Handle((w.gave[slot]+1)*65536 + uint64(slot))
	w.fulls[f.at], w.live[f.at] = f, true
	w.at = append(w.at, f.at)
	w.calls.Allocs++
	return f.at
}

// gives is what the model does when a node is freed.
func (w *world) gives(h api.Handle) {
	slot := int(h % 65536)
	delete(w.live, h)
	w.gave[slot]++
	if w.gave[slot] < w.gens {
		w.stack = slices.Insert(slices.Clone(w.stack), 0, slot)
	}
	w.calls.Frees++
}

// refusesNode is what Alloc returns for a node of a valid plan. A child that is not live comes before the slot that is missing, and is no access.
func (w *world) refusesNode(f *full) api.Errno {
	for _, k := range f.kids {
		if !w.live[k.at] {
			return api.ErrStale
		}
	}
	if len(w.stack) == 0 {
		return api.ErrFull
	}
	return api.OK
}

// same checks that the arena is as its model.
func (w *world) same(call string) {
	w.t.Helper()
	want := w.calls
	var withdrawn []int
	for slot, n := range w.gave {
		if n == w.gens {
			withdrawn = append(withdrawn, slot)
		}
	}
	want.Slots, want.Free, want.Live, want.Withdrawn = len(w.gave), len(w.stack), len(w.live), len(withdrawn)
	if s := w.a.Stats(); s != want {
		w.t.Fatalf("%s: the arena became %+v; want %+v", call, s, want)
	}
	if free, gone := w.a.Slots(); !slices.Equal(free, w.stack) || !slices.Equal(gone, withdrawn) {
		w.t.Fatalf("%s: the free slots became %v, and %v are withdrawn; want %v and %v", call, free, gone, w.stack, withdrawn)
	}
}

// isThere checks that the live nodes among these are as they were written.
func (w *world) isThere(l ...api.Handle) {
	w.t.Helper()
	for _, h := range l {
		if !w.live[h] {
			if w.a.Live(h) {
				w.t.Fatalf("the node %s is live", name(h))
			}
			continue
		}
		x, e := w.a.Get(h)
		f := w.fulls[h]
		if e != api.OK || x.Height != f.height || x.Height == 0 && x.Text != f.text || x.Height > 0 && x.Text != "" || len(x.Kids) != len(f.kids) {
			w.t.Fatalf("the node %s is %v, %d; want height %d, %q, %d children", name(h), x, e, f.height, f.text, len(f.kids))
		}
		for i, k := range x.Kids {
			if k.At != f.kids[i].at || k.M != f.kids[i].m {
				w.t.Fatalf("the child %d of the node %s is %v; want %v", i, name(h), k, f.kids[i].root())
			}
		}
	}
}

// ends checks at the end of a test that all nodes are as they were written.
func (w *world) ends() {
	w.t.Helper()
	w.same("the whole test")
	w.isThere(w.at...)
}

// name is the text form of a handle.
func name(h api.Handle) string { return fmt.Sprintf("%d.%d", h%65536, h/65536) }

// names are the text forms of handles.
func names(l []api.Handle) string {
	var s []string
	for _, h := range l {
		s = append(s, name(h))
	}
	return strings.Join(s, " ")
}

// show prints a plan, and of a long one the beginning.
func show(t api.Tree) string {
	var b strings.Builder
	var walk func(t api.Tree)
	walk = func(t api.Tree) {
		if b.Len() > 400 {
			return
		}
		fmt.Fprintf(&b, "(%d", t.Height)
		if t.Old != 0 || t.M != (api.Measure{}) {
			fmt.Fprintf(&b, " keeps %s %v", name(t.Old), t.M)
		}
		if t.Text != "" {
			fmt.Fprintf(&b, " %.20q", t.Text)
		}
		for _, k := range t.Kids {
			walk(k)
		}
		b.WriteString(")")
	}
	walk(t)
	return b.String()
}

// full adds to a valid plan what is below its kept nodes.
func (w *world) full(t api.Tree) *full {
	switch {
	case t.Old != 0:
		return w.fulls[t.Old]
	case t.Text != "":
		return newLeaf(t.Text)
	case len(t.Kids) == 0:
		return nil
	}
	var kids []*full
	for _, k := range t.Kids {
		kids = append(kids, w.full(k))
	}
	return newInner(kids...)
}

// tree is the plan of which f is the model.
func (f *full) tree() api.Tree {
	switch {
	case f == nil:
		return api.Tree{}
	case f.at != 0:
		return f.keeps()
	case f.height == 0:
		return leafOf(f.text)
	}
	t := api.Tree{Height: f.height}
	for _, k := range f.kids {
		t.Kids = append(t.Kids, k.tree())
	}
	return t
}

// refused is the error of plan.Check, with the number of stale accesses that it counts.
func (w *world) refused(t api.Tree) (e api.Errno, stale int) {
	if isEmpty(t) {
		return api.OK, 0
	}
	bytes := 0
	var walk func(t api.Tree, isKid bool, height int)
	walk = func(t api.Tree, isKid bool, height int) {
		switch {
		case e != api.OK:
			return
		case !isNode(t) || isKid && t.Height != height:
			e = api.ErrShape
		case t.Old != 0 && !w.live[t.Old]:
			e, stale = api.ErrStale, 1
		case t.Old != 0 && (w.fulls[t.Old].height != t.Height || w.fulls[t.Old].m != t.M):
			e = api.ErrShape
		case isKid && t.Height == 0 && t.M.Bytes+len(t.Text) < shortest:
			e = api.ErrShape
		}
		bytes += t.M.Bytes + len(t.Text)
		for _, k := range t.Kids {
			walk(k, true, t.Height-1)
		}
	}
	walk(t, false, 0)
	if e == api.OK && bytes > mostText {
		e = api.ErrLong
	}
	return e, stale
}

// same tells whether two plans are equal, a nil list of Kids being an empty one.
func same(x, y api.Tree) bool {
	return x.Old == y.Old && x.Height == y.Height && x.M == y.M && x.Text == y.Text && slices.EqualFunc(x.Kids, y.Kids, same)
}

// junk is what lies behind the Kids of the plans that are passed.
var junk = api.Tree{Old: 77, Height: 7, M: api.Measure{Bytes: 7}, Text: "behind the end", Kids: []api.Tree{}}

// roomy is a copy of a plan, with room behind each list of Kids.
func roomy(t api.Tree) api.Tree {
	if len(t.Kids) == 0 {
		return t
	}
	kids := make([]api.Tree, 0, len(t.Kids)+2)
	for _, k := range t.Kids {
		kids = append(kids, roomy(k))
	}
	for i := len(kids); i < cap(kids); i++ {
		kids[:cap(kids)][i] = junk
	}
	t.Kids = kids
	return t
}

// inRoom checks that a roomy copy of a plan is as it was made, and so is the room.
func inRoom(x, t api.Tree) bool {
	if x.Old != t.Old || x.Height != t.Height || x.M != t.M || x.Text != t.Text || len(x.Kids) != len(t.Kids) {
		return false
	}
	if len(t.Kids) == 0 {
		return true
	}
	for _, k := range x.Kids[len(x.Kids):cap(x.Kids)] {
		if !same(k, junk) {
			return false
		}
	}
	return slices.EqualFunc(x.Kids, t.Kids, inRoom)
}

// spoil writes over all Kids of a plan, also beyond their length.
func spoil(t api.Tree) {
	for _, k := range t.Kids {
		spoil(k)
	}
	for i := range t.Kids[:cap(t.Kids)] {
		t.Kids[:cap(t.Kids)][i] = api.Tree{Old: 78, Text: "spoiled"}
	}
}

// spoilAll writes over all of a list, also beyond its length.
func spoilAll[E any](l []E, with E) {
	for i := range l[:cap(l)] {
		l[:cap(l)][i] = with
	}
}

// refusesPlan is the error of Write and Begin, with the number of stale accesses that it counts.
func (w *world) refusesPlan(t api.Tree) (e api.Errno, stale int) {
	if e, stale = w.refused(t); e != api.OK {
		return e, stale
	}
	if len(w.full(t).unwritten()) > len(w.stack) {
		return api.ErrFull, 0
	}
	return api.OK, 0
}

// writes calls Write, checks it, and returns the rope, and the error.
func (w *world) writes(t api.Tree) (*full, api.Errno) {
	w.t.Helper()
	e, stale := w.refusesPlan(t)
	w.calls.Stale += stale
	var f *full
	var want []api.Handle
	if e == api.OK {
		f = w.full(t)
		for _, x := range f.unwritten() {
			want = append(want, w.takes(x))
		}
	}
	passed := roomy(t)
	root, fresh, is := rope.Write(w.a, passed)
	if root != f.root() || !slices.Equal(fresh, want) || is != e {
		w.t.Fatalf("Write%s: %v, %s, %d; want %v, %s, %d", show(t), root, names(fresh), is, f.root(), names(want), e)
	}
	if !inRoom(passed, t) {
		w.t.Fatalf("Write%s: the plan became %s", show(t), show(passed))
	}
	spoilAll(fresh, 77)
	spoil(passed)
	w.same("Write" + show(t))
	w.isThere(want...)
	return f, e
}

// makes calls New, checks it, and returns the rope, and the error.
func (w *world) makes(s string) (*full, api.Errno) {
	w.t.Helper()
	var f *full
	e := api.OK
	if len(s) > mostText {
		e = api.ErrLong
	} else {
		f = built(s)
	}
	l := f.unwritten()
	if e == api.OK && len(l) > len(w.stack) {
		e, f = api.ErrFull, nil
	}
	for _, x := range f.unwritten() {
		w.takes(x)
	}
	root, is := rope.New(w.a, s)
	if root != f.root() || is != e {
		w.t.Fatalf("New of %d bytes: %v, %d; want %v, %d", len(s), root, is, f.root(), e)
	}
	w.same(fmt.Sprintf("New of %d bytes", len(s)))
	w.isThere(w.at[max(len(w.at)-len(l), 0):]...)
	return f, e
}

// rootRefused is the error of the check of a root, with the number of stale accesses that it counts.
func (w *world) rootRefused(root api.Root) (e api.Errno, stale int) {
	switch {
	case root == (api.Root{}):
		return api.OK, 0
	case root.At == 0:
		return api.ErrArg, 0
	case !w.live[root.At]:
		return api.ErrStale, 1
	case root != w.fulls[root.At].root():
		return api.ErrShape, 0
	}
	return api.OK, 0
}

// ropeRefused is the error of Check, with the number of stale accesses that it counts.
func (w *world) ropeRefused(root api.Root) (e api.Errno, stale int) {
	if e, stale = w.rootRefused(root); e != api.OK {
		return e, stale
	}
	for _, x := range w.fulls[root.At].preorder() {
		if !w.live[x.at] {
			return api.ErrStale, 1
		}
	}
	return api.OK, 0
}

// handlesOf are the handles of a rope in preorder, each once.
func handlesOf(f *full) []api.Handle {
	var l []api.Handle
	seen := map[api.Handle]bool{}
	for _, x := range f.preorder() {
		if !seen[x.at] {
			seen[x.at] = true
			l = append(l, x.at)
		}
	}
	return l
}

// leavesOf are the texts of the leaves of a rope, each as often as it occurs.
func leavesOf(f *full) []string {
	var l []string
	for _, x := range f.preorder() {
		if x.height == 0 {
			l = append(l, x.text)
		}
	}
	return l
}

// reads calls Check, Text, Nodes and Leaves, checks them, and returns the error.
func (w *world) reads(root api.Root) api.Errno {
	w.t.Helper()
	e, stale := w.ropeRefused(root)
	var f *full
	if e == api.OK {
		f = w.fulls[root.At]
	}
	call := fmt.Sprintf("of the root %s, %d, %v", name(root.At), root.Height, root.M)
	if is := rope.Check(w.a, root); is != e {
		w.t.Fatalf("Check %s: %d; want %d", call, is, e)
	}
	w.calls.Stale += stale
	w.same("Check " + call)
	if text, is := rope.Text(w.a, root); text != f.textOf() || is != e {
		w.t.Fatalf("Text %s: %.80q, %d; want %.80q, %d", call, text, is, f.textOf(), e)
	}
	w.calls.Stale += stale
	w.same("Text " + call)
	nodes, is := rope.Nodes(w.a, root)
	other, again := rope.Nodes(w.a, root)
	if !slices.Equal(nodes, handlesOf(f)) || is != e || again != e {
		w.t.Fatalf("Nodes %s: %s, %d; want %s, %d", call, names(nodes), is, names(handlesOf(f)), e)
	}
	spoilAll(nodes, 77)
	if !slices.Equal(other, handlesOf(f)) {
		w.t.Fatalf("Nodes %s: another result became %s", call, names(other))
	}
	w.calls.Stale += 2 * stale
	w.same("Nodes " + call)
	leaves, is := rope.Leaves(w.a, root)
	parts, again := rope.Leaves(w.a, root)
	if !slices.Equal(leaves, leavesOf(f)) || is != e || again != e {
		w.t.Fatalf("Leaves %s: %.20q, %d; want %.20q, %d", call, leaves, is, leavesOf(f), e)
	}
	spoilAll(leaves, "spoiled")
	if !slices.Equal(parts, leavesOf(f)) {
		w.t.Fatalf("Leaves %s: another result became %.20q", call, parts)
	}
	w.calls.Stale += 2 * stale
	w.same("Leaves " + call)
	w.isThere(handlesOf(f)...)
	return e
}

// frees calls Free, checks it, and returns the error.
func (w *world) frees(root api.Root) api.Errno {
	w.t.Helper()
	e, stale := w.ropeRefused(root)
	w.calls.Stale += stale
	var l []api.Handle
	if e == api.OK {
		l = handlesOf(w.fulls[root.At])
	}
	for _, h := range l {
		w.gives(h)
	}
	n, is := rope.Free(w.a, root)
	if n != len(l) || is != e {
		w.t.Fatalf("Free of the root %v: %d, %d; want %d, %d", root, n, is, len(l), e)
	}
	w.same(fmt.Sprintf("Free of the root %v", root))
	w.isThere(l...)
	return e
}

// loses frees a node alone, whether others have it as a child or not.
func (w *world) loses(f *full) {
	w.t.Helper()
	if e := w.a.Free(f.at); e != api.OK {
		w.t.Fatalf("arena.Free(%s): %d", name(f.at), e)
	}
	w.gives(f.at)
	w.same("arena.Free")
}

// leaf writes a leaf of n bytes.
func (w *world) leaf(n int) *full {
	w.t.Helper()
	return w.written(leafOf(w.text(n)))
}

// inner writes an inner node.
func (w *world) inner(kids ...*full) *full {
	w.t.Helper()
	t := api.Tree{Height: kids[0].height + 1}
	for _, k := range kids {
		t.Kids = append(t.Kids, k.keeps())
	}
	return w.written(t)
}

// written writes a plan, which is to be possible.
func (w *world) written(t api.Tree) *full {
	w.t.Helper()
	f, e := w.writes(t)
	if e != api.OK {
		w.t.Fatalf("Write%s: %d", show(t), e)
	}
	return f
}

// pen is a pen together with its model.
type pen struct {
	w    *world
	p    *rope.Pen
	todo []*full // what is still to be written
	top  *full
}

// begins calls Begin and checks it. The pen is nil beside an error.
func (w *world) begins(t api.Tree) (*pen, api.Errno) {
	w.t.Helper()
	e, stale := w.refusesPlan(t)
	w.calls.Stale += stale
	passed := roomy(t)
	p, is := rope.Begin(w.a, passed)
	if is != e || (p == nil) != (e != api.OK) {
		w.t.Fatalf("Begin%s: %v, %d; want %d", show(t), p, is, e)
	}
	if !inRoom(passed, t) {
		w.t.Fatalf("Begin%s: the plan became %s", show(t), show(passed))
	}
	// From here on the plan is the caller's again.
	spoil(passed)
	w.same("Begin" + show(t))
	if e != api.OK {
		return nil, e
	}
	x := &pen{w: w, p: p, top: w.full(t)}
	x.todo = x.top.unwritten()
	x.roots()
	return x, e
}

// pen begins to write a plan, which is to be possible.
func (w *world) pen(t api.Tree) *pen {
	w.t.Helper()
	x, e := w.begins(t)
	if e != api.OK {
		w.t.Fatalf("Begin%s: %d", show(t), e)
	}
	return x
}

// roots calls Root and checks it.
func (x *pen) roots() {
	x.w.t.Helper()
	e, want := api.ErrState, api.Root{}
	if len(x.todo) == 0 {
		e, want = api.OK, x.top.root()
	}
	if root, is := x.p.Root(); root != want || is != e {
		x.w.t.Fatalf("Root of a pen that has %d nodes to write: %v, %d; want %v, %d", len(x.todo), root, is, want, e)
	}
	x.w.same("Root")
}

// steps calls Step, checks it, and returns the error.
func (x *pen) steps() api.Errno {
	w := x.w
	w.t.Helper()
	var want api.Handle
	e := api.OK
	if len(x.todo) > 0 {
		e = w.refusesNode(x.todo[0])
	}
	if len(x.todo) > 0 && e == api.OK {
		want = w.takes(x.todo[0])
		x.todo = x.todo[1:]
	}
	h, done, is := x.p.Step()
	if h != want || done != (len(x.todo) == 0) || is != e {
		w.t.Fatalf("Step before which %d nodes were to be written: %s, %v, %d; want %s, %v, %d", len(x.todo), name(h), done, is, name(want), len(x.todo) == 0, e)
	}
	w.same("Step")
	if want != 0 {
		w.isThere(want)
	}
	x.roots()
	return e
}

// finishes steps a pen to its end, which is to be possible, and returns the rope.
func (x *pen) finishes() *full {
	x.w.t.Helper()
	for len(x.todo) > 0 {
		if e := x.steps(); e != api.OK {
			x.w.t.Fatalf("Step: %d", e)
		}
	}
	return x.top
}

// mixed is an arena with ropes of all sorts: leaves that are short and not, and inner nodes of 2 to 4 children and of some heights, some with a child several times. Some nodes were freed, some of them below others.
func mixed(t *testing.T) *world {
	w := start(t, 900, 4)
	var leaves []*full
	for _, n := range []int{1, 7} {
		w.leaf(n)
	}
	for n := shortest; n <= longest; n++ {
		leaves = append(leaves, w.leaf(n))
	}
	light, heavy, some := leaves[0], leaves[8], leaves[3]
	row := []*full{w.inner(light, light), w.inner(heavy, heavy, heavy, heavy), w.inner(some, light, heavy), w.inner(leaves[1], leaves[2], leaves[4], leaves[7]), w.inner(heavy, light)}
	gone := []*full{w.leaf(3), w.leaf(12), w.inner(light, heavy), w.leaf(9)}
	broken := w.inner(row[0], w.inner(light, gone[3], heavy), row[1])
	w.loses(gone[0])
	w.loses(gone[1])
	above := []*full{w.inner(row[0], row[0]), w.inner(row[1], row[3], row[1], row[1]), w.inner(row[2], row[0], row[4]), w.inner(row[3], row[4])}
	w.loses(gone[2])
	w.loses(gone[3])
	w.inner(above[0], broken, above[1])
	w.inner(above[0], above[0])
	w.inner(above[0], above[2], above[3], above[0])
	w.written(built(w.text(17)).tree())
	w.written(built(w.text(150)).tree())
	w.inner(w.written(built(w.text(64)).tree()), w.written(innerOf(1, leafOf(w.text(8)), heavy.keeps())))
	return w
}

// ropes are the live nodes of the arena as ropes, also those that are not whole.
func (w *world) ropes() []*full {
	var l []*full
	for _, h := range w.at {
		if w.live[h] {
			l = append(l, w.fulls[h])
		}
	}
	return l
}

// isWhole tells whether all nodes of a rope or a plan that are written are live.
func (w *world) isWhole(f *full) bool {
	return !slices.ContainsFunc(f.preorder(), func(x *full) bool { return x.at != 0 && !w.live[x.at] })
}

// random is a valid, whole plan of a height over the nodes of the arena, and not a short leaf.
func (w *world) random(r *rand.Rand, height int) api.Tree {
	kept := slices.DeleteFunc(w.ropes(), func(f *full) bool { return f.height != height || f.m.Bytes < shortest || !w.isWhole(f) })
	if len(kept) > 0 && r.Intn(3) > 0 {
		return kept[r.Intn(len(kept))].keeps()
	}
	if height == 0 {
		return leafOf(w.text(shortest + r.Intn(longest-shortest+1)))
	}
	t := api.Tree{Height: height}
	for range fewest + r.Intn(manyKids-fewest+1) {
		t.Kids = append(t.Kids, w.random(r, height-1))
	}
	return t
}

// ordinary are plans of all sorts over the nodes of the arena: the empty one, those that keep a node, new leaves, and new inner nodes over both.
func (w *world) ordinary() []api.Tree {
	r := rand.New(rand.NewSource(16))
	l := []api.Tree{{}, {Kids: []api.Tree{}}, {Text: w.text(12), Kids: []api.Tree{}}}
	for _, f := range w.ropes() {
		l = append(l, f.keeps())
	}
	for n := 1; n <= longest; n++ {
		l = append(l, leafOf(w.text(n)))
	}
	for height := 1; height <= 4; height++ {
		for range 4 {
			l = append(l, w.random(r, height))
		}
	}
	for _, n := range []int{17, 33, 64, 65, 200} {
		l = append(l, built(w.text(n)).tree())
	}
	return l
}

// faulty are plans that are not valid, with the error that plan.Check gives for each.
func (w *world) faulty() map[api.Errno][]api.Tree {
	leaf, short := leafOf("abcdefgh"), leafOf("abcdefg")
	var kept, low, gone *full
	for _, h := range w.at {
		switch f := w.fulls[h]; {
		case !w.live[h]:
			gone = f
		case f.height == 0 && f.m.Bytes < shortest:
			low = f
		case f.height == 0:
			kept = f
		}
	}
	higher, wider := kept.keeps(), kept.keeps()
	higher.Height++
	wider.M.Lines++
	heavy := built(w.text(40000)).tree()
	stale := api.Tree{Old: gone.at, Height: 0, M: gone.m}
	many := make([]api.Tree, 5)
	for i := range many {
		many[i] = leaf
	}
	tall := doubled(leaf, 13)
	return map[api.Errno][]api.Tree{
		api.ErrShape: {
			{Height: 1}, {Height: -1}, {M: api.Measure{Bytes: 1}}, {Text: "abc", Height: 1}, {Text: w.text(17)}, {Old: kept.at, Height: 0, M: kept.m, Text: "abc"},
			innerOf(1, leaf), innerOf(1, many...), innerOf(0, leaf, leaf), innerOf(17, leaf, leaf), innerOf(2, leaf, leaf), innerOf(1, leaf, api.Tree{}), innerOf(1, leaf, short), innerOf(1, short, leaf),
			innerOf(1, leaf, low.keeps()), higher, wider, innerOf(1, leaf, wider), innerOf(1, leaf, innerOf(1, leaf, leaf)), innerOf(1, short, stale), innerOf(2, innerOf(1, leaf, leaf), innerOf(1, leaf, wider)),
		},
		api.ErrStale: {
			stale, {Old: 1 << 40}, {Old: 1}, {Old: math.MaxUint64}, {Old: kept.at + 65536, M: kept.m}, innerOf(1, leaf, stale), innerOf(1, stale, short), innerOf(1, stale, stale), innerOf(2, innerOf(1, leaf, leaf), innerOf(1, kept.keeps(), stale)),
		},
		api.ErrLong: {
			innerOf(heavy.Height+1, heavy, heavy), innerOf(14, tall, tall), innerOf(14, tall, doubled(kept.keeps(), 13)),
		},
	}
}
