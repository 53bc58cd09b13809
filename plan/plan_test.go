package plan_test

import (
	"math"
	"math/rand"
	"slices"
	"strings"
	"testing"

	"quarto/api"
	"quarto/arena"
	"quarto/plan"
)

// example is the arena of the chapter's examples: the leaves 0.1 and 1.1, and the inner node 2.1.
func example(t *testing.T) (w *world, x *full) {
	w = start(t, 8, 4)
	x = w.write(built("abcdefghijklmnopq"))
	if x.old != 2+65536 {
		t.Fatalf("the inner node is %d", x.old)
	}
	return w, x
}

// leafOf is a new leaf.
func leafOf(text string) api.Tree { return api.Tree{Text: text} }

// innerOf is a node with these Kids, valid or not.
func innerOf(height int, kids ...api.Tree) api.Tree { return api.Tree{Height: height, Kids: kids} }

// isTree checks a plan.
func isTree(t *testing.T, call string, got, want api.Tree) {
	t.Helper()
	if !same(got, want) {
		t.Fatalf("%s: %s; want %s", call, show(got), show(want))
	}
}

// The examples of the chapter.
func TestExamples(t *testing.T) {
	w, f := example(t)
	x := f.tree()
	left := api.Tree{Old: 65536, M: api.Measure{Bytes: 9, Runes: 9}}
	right := api.Tree{Old: 65537, M: api.Measure{Bytes: 8, Runes: 8}}
	b, e := plan.Build("abcdefghijklmnopq")
	if n := plan.New(b); n != 3 || e != api.OK {
		t.Fatalf("New(Build): %d, %d", n, e)
	}
	b, e = plan.Build("")
	isTree(t, "Build of nothing", b, api.Tree{})
	text, e2 := plan.Text(w.a, x)
	if l := plan.Kept(x); !slices.Equal(l, []api.Handle{65538}) || text != "abcdefghijklmnopq" || e != api.OK || e2 != api.OK {
		t.Fatalf("Kept(x), Text(x): %v, %q, %d, %d", l, text, e, e2)
	}
	l, r, e := plan.Cut(w.a, x, 9)
	isTree(t, "Cut(x, 9)", innerOf(int(e)+1, l, r), innerOf(1, left, right))
	l, r, e = plan.Cut(w.a, x, 4)
	isTree(t, "Cut(x, 4)", innerOf(int(e)+1, l, r), innerOf(1, leafOf("abcd"), leafOf("efghijklmnopq")))
	l, e = plan.Replace(w.a, x, 9, 0, "xyz")
	isTree(t, "Replace(x, 9, 0, xyz)", innerOf(int(e)+2, l), innerOf(2, innerOf(1, leafOf("abcdefghixyz"), right)))
	l, e = plan.Replace(w.a, x, 0, 9, "")
	isTree(t, "Replace(x, 0, 9)", innerOf(int(e)+1, l), innerOf(1, right))
	hs, e := plan.Dropped(w.a, f.root(), l)
	if !slices.Equal(hs, []api.Handle{65538, 65536}) || e != api.OK {
		t.Fatalf("Dropped: %v, %d", hs, e)
	}
	l, e = plan.Concat(w.a, x, x)
	isTree(t, "Concat(x, x)", innerOf(int(e)+2, l), innerOf(2, innerOf(1, left, right, left, right)))
	none, e := plan.Merge(w.a, x, api.Tree{})
	if len(none) > 0 || e != api.ErrArg {
		t.Fatalf("Merge(x, empty): %s, %d", show(none...), e)
	}
	if l, r, e := plan.Cut(w.a, x, 18); !isEmpty(l) || !isEmpty(r) || e != api.ErrRange {
		t.Fatalf("Cut(x, 18): %s, %d", show(l, r), e)
	}
	if e := plan.Check(w.a, innerOf(1, leafOf("abc"), leafOf("abcdefgh"))); e != api.ErrShape {
		t.Fatalf("Check of a short leaf: %d", e)
	}
}

// R5: without an arena there is ErrNil, whatever else is wrong, and nothing else.
func TestNil(t *testing.T) {
	var none *arena.Arena
	for _, x := range []api.Tree{{}, leafOf("abc"), {Old: 65536, M: api.Measure{Bytes: 1}}, {Height: 3}, leafOf(strings.Repeat("x", 17))} {
		for _, root := range []api.Root{{}, {Height: 1}, {At: 65536}} {
			kept, e := plan.Keep(none, root)
			dropped, e2 := plan.Dropped(none, root, x)
			if e != api.ErrNil || e2 != api.ErrNil || !isEmpty(kept) || len(dropped) > 0 {
				t.Fatalf("Keep and Dropped of %v: %s, %d; %v, %d", root, show(kept), e, dropped, e2)
			}
		}
		if e := plan.Check(none, x); e != api.ErrNil {
			t.Fatalf("Check%s: %d", show(x), e)
		}
		if text, e := plan.Text(none, x); text != "" || e != api.ErrNil {
			t.Fatalf("Text%s: %q, %d", show(x), text, e)
		}
		for _, y := range []api.Tree{{}, leafOf("def"), {Height: 3}} {
			l, e := plan.Merge(none, x, y)
			c, e2 := plan.Concat(none, x, y)
			if len(l) > 0 || e != api.ErrNil || !isEmpty(c) || e2 != api.ErrNil {
				t.Fatalf("Merge and Concat of %s: %s, %d; %s, %d", show(x, y), show(l...), e, show(c), e2)
			}
		}
		for _, at := range []int{-1, 0, 1, 99} {
			l, r, e := plan.Cut(none, x, at)
			p, e2 := plan.Replace(none, x, at, at, "abc")
			if !isEmpty(l) || !isEmpty(r) || !isEmpty(p) || e != api.ErrNil || e2 != api.ErrNil {
				t.Fatalf("Cut and Replace at %d of %s: %s, %d, %d", at, show(x), show(l, r, p), e, e2)
			}
		}
	}
}

// P15.1: valid plans of all sorts.
func TestCheckValid(t *testing.T) {
	w := mixed(t)
	for _, x := range w.ordinary() {
		w.checks(x, api.OK)
		if e := plan.Check(w.a, x); e != api.OK {
			t.Fatalf("Check%s: %d", show(x), e)
		}
	}
	w.ends()
}

// spoilt are plans each of which differs from x in a field, so that it is of no kind.
func spoilt(w *world, x api.Tree) []api.Tree {
	var l []api.Tree
	change := func(f func(x *api.Tree)) {
		y := x
		f(&y)
		if !isNode(y) && !isEmpty(y) {
			l = append(l, y)
		}
	}
	live := w.at[0]
	change(func(x *api.Tree) { x.Old = live })
	change(func(x *api.Tree) { x.Old = 1 << 63 })
	change(func(x *api.Tree) { x.Old = 0 })
	for _, h := range []int{-1, 0, 1, 2, 16, 17, math.MinInt, math.MaxInt} {
		change(func(x *api.Tree) { x.Height = h })
	}
	for _, m := range []api.Measure{{Bytes: 1}, {Runes: 1}, {Lines: 1}, {Bytes: -1}, {Bytes: 8, Runes: 8}} {
		change(func(x *api.Tree) { x.M = m })
	}
	for _, n := range []int{0, 1, 8, 16, 17, 18, 32, 256, 65536, 65537} {
		change(func(x *api.Tree) { x.Text = strings.Repeat("x", n) })
	}
	for n := range 7 {
		change(func(x *api.Tree) {
			x.Kids = make([]api.Tree, n)
			for i := range x.Kids {
				x.Kids[i] = doubled(leafOf("abcdefgh"), max(min(x.Height, 5)-1, 0))
			}
		})
	}
	return l
}

// P15.1: nodes that are of none of the three kinds, as a plan and as a Kid at each place. They are not accessed, though their Old is live or not.
func TestCheckKinds(t *testing.T) {
	w := mixed(t)
	valid := slices.Concat(w.kept(0)[2:5], w.kept(1)[:2], w.kept(2)[:2], w.lowest()[7:9], []api.Tree{doubled(leafOf("abcdefgh"), 1), doubled(w.kept(0)[4], 2), built(w.text(200)).tree()})
	tried := 0
	for _, x := range valid {
		for _, wrong := range spoilt(w, x) {
			w.checks(wrong, api.ErrShape)
			for n := fewest; n <= manyKids; n++ {
				for at := range n {
					kids := slices.Repeat([]api.Tree{x}, n)
					kids[at] = wrong
					w.checks(innerOf(x.Height+1, kids...), api.ErrShape)
					tried++
				}
			}
		}
	}
	if tried < 1000 {
		t.Fatalf("only %d plans", tried)
	}
}

// P15.1: the number of Kids, and the Height of an inner node.
func TestCheckBounds(t *testing.T) {
	w := mixed(t)
	leaf := leafOf("abcdefgh")
	for n := range 9 {
		want := api.ErrShape
		if n >= fewest && n <= manyKids {
			want = api.OK
		}
		w.checks(innerOf(1, slices.Repeat([]api.Tree{leaf}, n)...), want)
		kid := innerOf(1, leaf, leaf)
		w.checks(innerOf(2, slices.Repeat([]api.Tree{kid}, n)...), want)
		w.checks(innerOf(3, innerOf(2, kid, kid), innerOf(2, slices.Repeat([]api.Tree{kid}, n)...)), want)
	}
	// Beyond the height 13 there are at least as many bytes as are too many: an error that comes after all others.
	for height := 1; height <= highest+2; height++ {
		want := api.OK
		switch {
		case height > highest:
			want = api.ErrShape
		case shortest<<height > mostText:
			want = api.ErrLong
		}
		w.checks(doubled(leaf, height), want)
		wrong := doubled(leaf, height)
		wrong.Kids[1] = doubled(leafOf("abcdefg"), height-1)
		w.checks(wrong, api.ErrShape)
	}
	for _, height := range []int{math.MinInt, -1, 0, 2, 3, 17, 1 << 32, 1<<32 + 1, math.MaxInt} {
		w.checks(innerOf(height, leaf, leaf), api.ErrShape)
		w.checks(innerOf(height+1, innerOf(height, leaf, leaf), innerOf(1, leaf, leaf)), api.ErrShape)
	}
}

// P15.1: an empty Kid, a Kid of a wrong Height, and short Kids, at each place, at which the others are right.
func TestCheckKids(t *testing.T) {
	w := mixed(t)
	short, enough := w.fulls[w.at[1]].tree(), w.fulls[w.at[2]].tree() // leaves of 7 and of 8 bytes
	if short.M.Bytes != 7 || enough.M.Bytes != 8 {
		t.Fatalf("%s", show(short, enough))
	}
	type kid struct {
		x api.Tree
		e api.Errno
	}
	for _, k := range []kid{
		{api.Tree{}, api.ErrShape}, {api.Tree{Kids: []api.Tree{}}, api.ErrShape},
		{short, api.ErrShape}, {enough, api.OK}, {leafOf("abcdefg"), api.ErrShape}, {leafOf("abcdefgh"), api.OK}, {leafOf("a"), api.ErrShape}, {w.fulls[w.at[0]].tree(), api.ErrShape},
		{leafOf("abcdefghijklmnop"), api.OK}, {leafOf("abcdefghijklmnopq"), api.ErrShape},
		{w.kept(1)[0], api.ErrShape}, {w.kept(2)[0], api.ErrShape}, {doubled(leafOf("abcdefgh"), 1), api.ErrShape},
	} {
		for n := fewest; n <= manyKids; n++ {
			for at := range n {
				kids := slices.Repeat([]api.Tree{enough}, n)
				kids[at] = k.x
				x := innerOf(1, kids...)
				w.checks(x, k.e)
				w.checks(innerOf(2, w.kept(1)[0], x), k.e)
				w.checks(innerOf(2, x, w.kept(1)[0]), k.e)
				w.checks(innerOf(3, w.kept(2)[0], innerOf(2, x, w.kept(1)[0])), k.e)
			}
		}
	}
	// Each height as a Kid of each height.
	for height := range 4 {
		for above := 1; above < 6; above++ {
			want := api.ErrShape
			if above == height+1 {
				want = api.OK
			}
			kid, right := w.kept(height), w.kept(min(above-1, 3))
			k := kid[len(kid)-1]
			w.checks(innerOf(above, k, k), want)
			w.checks(innerOf(above, right[len(right)-1], k), want)
		}
	}
	// A short leaf is a valid plan of its own.
	w.checks(short, api.OK)
	w.checks(leafOf("a"), api.OK)
}

// wrongKept are kept nodes that are not valid: those of handles that are not live, and those whose Height or M is not that of the node.
func wrongKept(w *world) (stale, shape []api.Tree) {
	for h := range w.freed {
		stale = append(stale, w.fulls[h].tree())
	}
	slices.SortFunc(stale, func(x, y api.Tree) int { return int(x.Old) - int(y.Old) })
	for _, x := range w.kept(-1)[:12] {
		for _, h := range []api.Handle{x.Old + 65536, x.Old - 65536, x.Old + 1<<48, x.Old + 1<<63, x.Old + 16384, 399 + 65536, 400 + 65536, 1, math.MaxUint64} {
			if h != 0 && !w.isLive(h) {
				y := x
				y.Old = h
				stale = append(stale, y)
			}
		}
		for _, n := range []int{-1, 1, 2, 16, math.MinInt} {
			for i, y := range []api.Tree{x, x, x, x} {
				*[]*int{&y.Height, &y.M.Bytes, &y.M.Runes, &y.M.Lines}[i] += n
				shape = append(shape, y)
			}
		}
	}
	return stale, shape
}

// P15.1: kept nodes that are stale, or not what they say, as a plan and as a Kid. A Kid of a wrong Height is not accessed.
func TestCheckKept(t *testing.T) {
	w := mixed(t)
	stale, shape := wrongKept(w)
	if len(stale) < 60 || len(shape) < 200 {
		t.Fatalf("%d and %d plans", len(stale), len(shape))
	}
	for i, x := range slices.Concat(stale, shape) {
		want := api.ErrShape
		if i < len(stale) {
			want = api.ErrStale
		}
		w.checks(x, want)
		if x.Height < 0 || x.Height > 5 {
			continue
		}
		right := w.random(rand.New(rand.NewSource(int64(i))), x.Height)
		w.checks(innerOf(x.Height+1, x, right), want)
		w.checks(innerOf(x.Height+1, right, x), want)
		w.checks(innerOf(x.Height+1, right, right, right, x), want)
		w.checks(innerOf(x.Height+2, innerOf(x.Height+1, right, right), innerOf(x.Height+1, right, x, right)), want)
		w.checks(innerOf(x.Height+3, innerOf(x.Height+1, right, right), x), api.ErrShape)
		w.checks(innerOf(x.Height+2, x, x), api.ErrShape)
	}
	// A slot that was given out again has another node.
	again := start(t, 1, 2)
	old := again.leaf(8)
	again.free(old)
	now := again.write(newLeaf(old.text))
	again.checks(old.tree(), api.ErrStale)
	again.checks(now.tree(), api.OK)
	w.ends()
}

// P15.1: the first of several errors in preorder, told apart by the error and by the accesses.
func TestCheckFirst(t *testing.T) {
	w := mixed(t)
	stale, _ := wrongKept(w)
	var bad []api.Tree // one leaf for each error, and valid ones
	for _, x := range stale {
		if x.Height == 0 && x.M.Bytes >= shortest {
			bad = append(bad, x)
			break
		}
	}
	wrong := w.fulls[w.at[3]].tree()
	wrong.M.Runes++
	staleShort := w.fulls[w.at[1]].tree()
	staleShort.Old += 65536
	bad = append(bad, wrong, staleShort, leafOf("abcdefg"), api.Tree{}, leafOf("abcdefgh"), w.fulls[w.at[2]].tree(), api.Tree{Old: bad[0].Old, Height: 1, M: bad[0].M})
	for _, a := range bad {
		for _, b := range bad {
			w.isCheck(innerOf(1, a, b))
			w.isCheck(innerOf(2, innerOf(1, a, b), innerOf(1, b, a)))
			for _, c := range bad {
				w.isCheck(innerOf(1, c, a, b))
				w.isCheck(innerOf(2, innerOf(1, c, a), b))
				w.isCheck(innerOf(2, innerOf(1, leafOf("abcdefgh"), a, b), innerOf(1, c, c)))
				w.isCheck(api.Tree{Height: 1, Text: "abcdefgh", Kids: []api.Tree{a, b, c}})
			}
		}
	}
	// Two stale nodes are one access: the second one is not reached.
	w.checks(innerOf(1, bad[0], bad[0]), api.ErrStale)
	// A node before its Kids, and ErrLong after all nodes.
	long := doubled(leafOf("abcdefgh"), 14)
	w.checks(long, api.ErrLong)
	for _, x := range []api.Tree{bad[0], leafOf("abcdefg"), wrong} {
		y := doubled(leafOf("abcdefgh"), 14)
		last := &y
		for last.Height > 0 {
			last.Kids = slices.Clone(last.Kids)
			last = &last.Kids[1]
		}
		*last = x
		e, _ := w.refused(innerOf(1, x, leafOf("abcdefgh")))
		w.checks(y, e)
	}
	w.ends()
}

// P15.1: a node that is of none of the three kinds comes before its Kids, which are stale here, and right otherwise.
func TestCheckBefore(t *testing.T) {
	w := mixed(t)
	live := w.kept(0)[4]
	for height := -1; height <= highest+1; height++ {
		for n := range manyKids + 2 {
			kids := slices.Repeat([]api.Tree{{Old: 1 << 50, Height: height - 1}}, n)
			for _, x := range []api.Tree{
				{Height: height}, {Height: height, Text: "abcdefgh"}, {Height: height, Text: "abcdefghijklmnopq"}, {Height: height, M: api.Measure{Bytes: 8}}, {Height: height, M: api.Measure{Lines: 1}}, {Height: height, Old: live.Old}, {Height: height, Old: live.Old, M: live.M}, {Height: height, Old: 1 << 50},
			} {
				x.Kids = kids
				if n > 0 && (x.Old != 0 || x.Text != "" || x.M != api.Measure{} || n < fewest || n > manyKids || height < 1 || height > highest) {
					w.checks(x, api.ErrShape)
				} else {
					w.isCheck(x)
				}
			}
		}
	}
	w.ends()
}

// full4 is a rope of a height of which each inner node has the same child four times: 14 nodes at most, and many bytes.
func (w *world) full4(leaf *full, height int) *full {
	for range height {
		leaf = w.inner(leaf, leaf, leaf, leaf)
	}
	return leaf
}

// P15.1: plans of MaxText bytes and of one more, of new nodes and of kept ones.
func TestCheckLong(t *testing.T) {
	w := start(t, 100, 1)
	most := w.full4(w.leaf(16), 6)
	row := w.full4(w.leaf(16), 5)
	w.checks(most.tree(), api.OK)
	w.checks(built(w.text(mostText)).tree(), api.OK)
	w.checks(built(w.text(mostText+1)).tree(), api.ErrLong)
	w.checks(built(w.text(mostText-1)).tree(), api.OK)
	w.checks(innerOf(7, most.tree(), most.tree()), api.ErrLong)
	w.checks(innerOf(7, most.tree(), most.tree(), most.tree(), most.tree()), api.ErrLong)
	k := row.tree()
	w.checks(innerOf(6, k, k, k), api.OK)
	w.checks(innerOf(6, k, k, k, k), api.OK)
	for _, n := range []int{16383, 16384} {
		last := built(w.text(n)).tree()
		w.checks(innerOf(6, k, k, last, k), api.OK)
	}
	// A kept node and new ones, with 65,536 bytes together, and with one more.
	half := w.full4(w.leaf(8), 6).tree()
	for more, want := range []api.Errno{api.OK, api.ErrLong} {
		rest := built(w.text(mostText - half.M.Bytes + more)).tree()
		w.checks(innerOf(7, half, rest), want)
		w.checks(innerOf(7, rest, half), want)
	}
	w.ends()
}

// P15.2: Keep of the roots of all nodes, the zero Root, and roots that are none.
func TestKeep(t *testing.T) {
	w := mixed(t)
	w.isKeep(api.Root{})
	for _, h := range w.at {
		root := w.fulls[h].root()
		w.isKeep(root)
		for _, n := range []int{-1, 1, 16, math.MinInt, math.MaxInt} {
			for i, wrong := range []api.Root{root, root, root, root} {
				*[]*int{&wrong.Height, &wrong.M.Bytes, &wrong.M.Runes, &wrong.M.Lines}[i] += n
				w.isKeep(wrong)
				wrong.At = 0
				w.isKeep(wrong)
				wrong.At = h + 65536
				w.isKeep(wrong)
			}
		}
		root.At = 0
		w.isKeep(root)
		w.isKeep(api.Root{At: h})
	}
	for _, root := range []api.Root{{Height: 1}, {Height: -1}, {M: api.Measure{Bytes: 1}}, {M: api.Measure{Runes: 1}}, {M: api.Measure{Lines: 1}}, {At: 1}, {At: math.MaxUint64}, {At: 399 + 65536}, {At: 400 + 65536}} {
		w.isKeep(root)
	}
	w.ends()
}

// P15.2: Build of strings of all lengths around the limits of each height.
func TestBuild(t *testing.T) {
	w := start(t, 1, 1)
	lengths := []int{1000, 4096, 4097, 16384, 16385, 65521, mostText - 1, mostText, mostText + 1, mostText + 17, 1 << 17}
	for n := range 700 {
		lengths = append(lengths, n)
	}
	for _, n := range lengths {
		s := w.text(n)
		want, e := built(s).tree(), api.OK
		if n > mostText {
			want, e = api.Tree{}, api.ErrLong
		}
		w.call("Build", nil, func([]api.Tree) ([]api.Tree, api.Errno) {
			x, e := plan.Build(s)
			return []api.Tree{x}, e
		}, []api.Tree{want}, e, 0)
		w.sound("Build", s[:len(w.full(want).textOf())], highest, want)
	}
}

// P15.3: Merge and Concat of every two plans of all sorts: of equal and of different heights, with short leaves, and empty ones.
func TestMergeConcat(t *testing.T) {
	w := mixed(t)
	l := w.ordinary()
	short := []api.Tree{leafOf("a"), leafOf("abcdefg"), w.fulls[w.at[0]].tree(), w.fulls[w.at[1]].tree()}
	errors := map[api.Errno]int{}
	for _, x := range l {
		for _, y := range l {
			errors[w.isMerge(x, y)]++
			errors[w.isConcat(x, y)]++
		}
		for _, s := range short {
			w.isMerge(x, s)
			w.isMerge(s, x)
			w.isConcat(x, s)
			w.isConcat(s, x)
		}
	}
	if errors[api.OK] < 5000 || errors[api.ErrArg] < 100 || len(errors) > 2 {
		t.Fatalf("these errors: %v", errors)
	}
	w.ends()
}

// P15.3: two leaves of every two lengths, new and kept: what stays as it is stays kept.
func TestMergeLeaves(t *testing.T) {
	w := start(t, 40, 1)
	for n := 1; n <= longest; n++ {
		w.leaf(n)
	}
	l := slices.Concat(w.lowest(), w.kept(0))
	for _, x := range l {
		for _, y := range l {
			w.isMerge(x, y)
			w.isConcat(x, y)
			all, e := plan.Merge(w.a, x, y)
			both := len(x.Text) + x.M.Bytes + len(y.Text) + y.M.Bytes
			if e != api.OK || len(all) != 1 && both <= 16 || len(all) != 2 && both > 16 {
				t.Fatalf("Merge%s: %s, %d", show(x, y), show(all...), e)
			}
		}
	}
	w.ends()
}

// P15.3: inner nodes of every two numbers of Kids and of the same height, and one leaf more at either end of a node of each number of Kids.
func TestMergeKids(t *testing.T) {
	w := start(t, 200, 1)
	for height := 1; height <= 3; height++ {
		var l []api.Tree
		for n := fewest; n <= manyKids; n++ {
			for _, kid := range []api.Tree{doubled(leafOf("abcdefgh"), height-1), w.full4(w.leaf(16), height-1).tree()} {
				x := innerOf(height, slices.Repeat([]api.Tree{kid}, n)...)
				l = append(l, x, w.write(w.full(x)).tree())
			}
		}
		for _, x := range l {
			for _, y := range slices.Concat(l, w.lowest(), w.kept(height-1), w.kept(0)) {
				w.isMerge(x, y)
				w.isMerge(y, x)
				w.isConcat(x, y)
				w.isConcat(y, x)
			}
		}
	}
	w.ends()
}

// P15.3 and R2: the error of the first plan, that of the second one, an empty plan, and then the length.
func TestMergeErrors(t *testing.T) {
	w := mixed(t)
	most := built(w.text(mostText)).tree()
	long := built(w.text(mostText + 1)).tree()
	stale, shape := wrongKept(w)
	l := slices.Concat([]api.Tree{{}, leafOf("a"), most, long, innerOf(1, leafOf("a"), leafOf("abcdefgh"))}, stale[:2], shape[:2], w.kept(-1)[:2])
	errors := map[api.Errno]int{}
	for _, x := range l {
		for _, y := range l {
			errors[w.isMerge(x, y)]++
			errors[w.isConcat(x, y)]++
		}
	}
	for _, e := range []api.Errno{api.OK, api.ErrArg, api.ErrLong, api.ErrStale, api.ErrShape} {
		if errors[e] == 0 {
			t.Fatalf("these errors: %v", errors)
		}
	}
	if e := w.isMerge(api.Tree{}, long); e != api.ErrLong {
		t.Fatalf("Merge of the empty plan and one that is too long: %d", e)
	}
	// Together MaxText bytes, and one more.
	for _, n := range []int{1, 8, 16, 17, 300, 32768} {
		x, y := built(w.text(mostText-n)).tree(), built(w.text(n)).tree()
		z := built(w.text(n + 1)).tree()
		for i, f := range []func(x, y api.Tree) api.Errno{w.isMerge, w.isConcat} {
			if f(x, y) != api.OK || f(y, x) != api.OK || f(x, z) != api.ErrLong || f(z, x) != api.ErrLong {
				t.Fatalf("the function %d, %d bytes", i, n)
			}
		}
	}
	if w.isConcat(most, api.Tree{}) != api.OK || w.isConcat(api.Tree{}, most) != api.OK || w.isMerge(most, api.Tree{}) != api.ErrArg {
		t.Fatalf("MaxText bytes, and none")
	}
	w.ends()
}

// P15.4: Cut of plans of all sorts at each offset, and at numbers that are none.
func TestCut(t *testing.T) {
	w := mixed(t)
	for _, x := range w.ordinary() {
		n := len(w.full(x).textOf())
		for at := range n + 1 {
			if e := w.isCut(x, at); e != api.OK {
				t.Fatalf("Cut at %d of %d: %d", at, n, e)
			}
		}
		for _, at := range append(strange(), n+1, n+2, -n) {
			if e := w.isCut(x, at); e != api.ErrRange && at != 0 {
				t.Fatalf("Cut at %d of %d: %d", at, n, e)
			}
		}
	}
	stale, shape := wrongKept(w)
	for _, x := range slices.Concat(stale[:3], shape[:3], []api.Tree{built(w.text(mostText + 1)).tree()}) {
		for _, at := range []int{0, 1, -1, math.MaxInt} {
			w.isCut(x, at)
		}
	}
	w.ends()
}

// P15.4: Replace of all ranges of some plans, by strings of some lengths.
func TestReplace(t *testing.T) {
	w := mixed(t)
	l := []api.Tree{{}, leafOf("a"), leafOf("abcdefgh"), w.kept(0)[1], w.kept(0)[7], w.kept(1)[0], w.kept(1)[3], w.kept(2)[0], doubled(w.kept(0)[5], 2), built(w.text(65)).tree()}
	r := rand.New(rand.NewSource(154))
	for height := 1; height <= 2; height++ {
		l = append(l, w.random(r, height))
	}
	for _, x := range l {
		bytes := len(w.full(x).textOf())
		step := 1 + bytes/40
		for at := 0; at <= bytes; at += step {
			for n := 0; n <= bytes-at; n += step {
				for _, s := range []string{"", "x", w.text(7), w.text(17)} {
					if e := w.isReplace(x, at, n, s); e != api.OK {
						t.Fatalf("Replace: %d", e)
					}
				}
			}
			for _, n := range []int{0, bytes - at} {
				w.isReplace(x, at, n, w.text(r.Intn(300)))
			}
		}
	}
	w.ends()
}

// P15.4: offsets and numbers of bytes that a plan does not have.
func TestReplaceRange(t *testing.T) {
	w := mixed(t)
	for _, x := range []api.Tree{{}, leafOf("abc"), w.kept(0)[4], w.kept(1)[2], w.kept(2)[1], built(w.text(33)).tree()} {
		bytes := len(w.full(x).textOf())
		numbers := append(strange(), 0, 1, 2, 8, bytes-1, bytes, bytes+1, -bytes, math.MaxInt-bytes, math.MaxInt-bytes+1, math.MinInt+bytes)
		for _, at := range numbers {
			for _, n := range append(numbers, bytes-at, bytes-at+1, bytes-at-1) {
				for _, s := range []string{"", "y", strings.Repeat("z", mostText+1)} {
					is := at >= 0 && at <= bytes && n >= 0 && n <= bytes-at
					if e := w.isReplace(x, at, n, s); is == (e == api.ErrRange) {
						t.Fatalf("Replace of %d bytes at %d of %d: %d", n, at, bytes, e)
					}
				}
			}
		}
	}
	w.ends()
}

// P15.4 and R2: a replacement that makes MaxText bytes, and one more; and the errors that come before.
func TestReplaceLong(t *testing.T) {
	w := start(t, 200, 1)
	most := w.full4(w.leaf(16), 6).tree()
	k := w.full4(w.leaf(13), 3).tree()
	mine := built(w.text(mostText - 5)).tree()
	for _, x := range []api.Tree{{}, leafOf("abc"), k, most, mine} {
		bytes := len(w.full(x).textOf())
		for _, at := range []int{0, 1, bytes / 2, bytes - 1, bytes} {
			for _, n := range []int{0, 1, 5, bytes / 2, bytes - at} {
				if at < 0 || n < 0 || n > bytes-at {
					continue
				}
				room := mostText - bytes + n
				s := w.text(room)
				if w.isReplace(x, at, n, s) != api.OK || w.isReplace(x, at, n, s+"x") != api.ErrLong || w.isReplace(x, at, n, s+w.text(mostText)) != api.ErrLong {
					t.Fatalf("Replace of %d bytes at %d of %d", n, at, bytes)
				}
			}
		}
		if w.isReplace(x, bytes+1, 0, w.text(mostText+1)) != api.ErrRange || w.isReplace(x, 0, bytes+1, w.text(mostText+1)) != api.ErrRange {
			t.Fatalf("of %d bytes: the range is told first", bytes)
		}
	}
	if w.isReplace(most, 0, 0, "") != api.OK || w.isReplace(most, mostText, 0, "") != api.OK || w.isReplace(most, 9, 0, "x") != api.ErrLong || w.isReplace(most, 9, 1, "x") != api.OK {
		t.Fatalf("Replace of MaxText bytes")
	}
	long := built(w.text(mostText + 1)).tree()
	for _, x := range []api.Tree{long, {Old: 99 + 65536}, {Height: 2}, innerOf(1, leafOf("a"), leafOf("b"))} {
		w.isReplace(x, 0, 0, "")
		w.isReplace(x, 0, 1, "")
		w.isReplace(x, -1, 0, w.text(mostText+1))
	}
	w.ends()
}

// P15.5: New, Kept and Text of plans of all sorts, of the greatest ones, and of some that are not valid.
func TestCounted(t *testing.T) {
	w := mixed(t)
	for _, x := range w.ordinary() {
		w.isCounted(x)
	}
	stale, shape := wrongKept(w)
	for _, x := range slices.Concat(stale, shape, spoilt(w, leafOf("abcdefgh")), spoilt(w, w.kept(1)[0]), spoilt(w, doubled(leafOf("abcdefgh"), 2))) {
		w.isCounted(x)
	}
	// As many nodes as a valid plan can have, and as many kept ones.
	light := doubled(leafOf("abcdefgh"), 13)
	w.isCounted(light)
	if n := plan.New(light); n != 16383 {
		t.Fatalf("New of 16,383 nodes: %d", n)
	}
	light = doubled(w.fulls[w.at[2]].tree(), 13)
	w.isCounted(light)
	if n, l := plan.New(light), plan.Kept(light); n != 8191 || !slices.Equal(l, w.at[2:3]) {
		t.Fatalf("New of 8,191 nodes over one kept leaf: %d, %v", n, l)
	}
	w.isCounted(doubled(leafOf("abcdefgh"), 14))
	w.ends()
}

// P15.5: Kept gives each handle once, at its first occurrence, and those of kept nodes alone.
func TestKeptOrder(t *testing.T) {
	w := mixed(t)
	l := w.kept(0)[2:7]
	a, b, c, d := l[0], l[1], l[2], l[3]
	for _, row := range [][]api.Tree{{b, a, b, a}, {c, c}, {d, leafOf("abcdefgh"), b, d}, {leafOf("abcdefgh"), a, a}} {
		x := innerOf(1, row...)
		w.isCounted(x)
		w.isCounted(innerOf(2, innerOf(1, c, b), x, innerOf(1, a, d)))
		w.isCounted(innerOf(2, w.kept(1)[0], x, w.kept(1)[0]))
		w.isCounted(innerOf(2, x, x, x))
	}
	got := plan.Kept(innerOf(2, innerOf(1, c, b), w.kept(1)[0], innerOf(1, b, a)))
	if want := []api.Handle{c.Old, b.Old, w.kept(1)[0].Old, a.Old}; !slices.Equal(got, want) {
		t.Fatalf("Kept: %v; want %v", got, want)
	}
	// A long list, in an order of its own.
	big := start(t, 8192, 1)
	var kids []*full
	for range 8192 {
		kids = append(kids, big.leaf(8))
	}
	slices.Reverse(kids)
	var want []api.Handle
	level := trees(kids...)
	for _, k := range level {
		want = append(want, k.Old)
	}
	for len(level) > 1 {
		var above []api.Tree
		for i := 0; i < len(level); i += 2 {
			above = append(above, innerOf(level[i].Height+1, level[i], level[i+1]))
		}
		level = above
	}
	if got := plan.Kept(level[0]); !slices.Equal(got, want) {
		t.Fatalf("Kept of 8,192 leaves: %d handles", len(got))
	}
}

// P15.6: Dropped of all ropes and plans of all sorts.
func TestDropped(t *testing.T) {
	w := mixed(t)
	l := w.ordinary()
	for _, h := range append(w.at, 0) {
		root := w.fulls[h].root()
		for _, x := range l {
			e, _ := w.rootRefused(root)
			if is := w.isDropped(root, x); is != e {
				t.Fatalf("Dropped: %d", is)
			}
		}
	}
	// What an edit leaves of the rope it was made of.
	for _, x := range w.kept(-1) {
		root := w.fulls[x.Old].root()
		for at := 0; at <= x.M.Bytes; at += 5 {
			y, e := plan.Replace(w.a, x, at, min(7, x.M.Bytes-at), "some text")
			if e != api.OK || w.isDropped(root, y) != api.OK {
				t.Fatalf("Replace: %d", e)
			}
		}
	}
	w.ends()
}

// P15.6 and R2: the error of the root, and then that of the plan.
func TestDroppedErrors(t *testing.T) {
	w := mixed(t)
	stale, shape := wrongKept(w)
	root := w.fulls[w.kept(1)[0].Old].root()
	roots := []api.Root{{}, root, {Height: 1}, {M: api.Measure{Lines: 1}}, {At: root.At}, {At: root.At + 65536, Height: 1, M: root.M}, {At: 1 << 63}}
	l := slices.Concat([]api.Tree{{}, leafOf("a"), {Height: 1}, built(w.text(mostText + 1)).tree(), innerOf(1, leafOf("a"), leafOf("b"))}, stale[:3], shape[:3])
	errors := map[api.Errno]int{}
	for _, root := range roots {
		for _, x := range l {
			errors[w.isDropped(root, x)]++
		}
	}
	for _, e := range []api.Errno{api.OK, api.ErrArg, api.ErrLong, api.ErrStale, api.ErrShape} {
		if errors[e] == 0 {
			t.Fatalf("these errors: %v", errors)
		}
	}
	w.ends()
}

// P15.6: nodes that occur several times in the rope, or in the plan, or in both at different depths.
func TestDroppedShared(t *testing.T) {
	w := start(t, 50, 1)
	a, b, c := w.leaf(8), w.leaf(9), w.leaf(10)
	ab, bc, aa := w.inner(a, b), w.inner(b, c, b), w.inner(a, a)
	x := w.inner(ab, aa, ab, bc)
	y := w.inner(bc, ab)
	top := w.inner(x, y, x)
	for _, p := range []*full{a, b, c, ab, bc, aa, x, y, top, newInner(a, c), newInner(ab, newInner(c, c)), newInner(y, y)} {
		for _, rope := range []*full{x, y, top, ab, a, aa} {
			w.isDropped(rope.root(), p.tree())
		}
	}
	got, e := plan.Dropped(w.a, top.root(), innerOf(1, b.tree(), leafOf("abcdefgh")))
	if want := []api.Handle{top.old, x.old, ab.old, a.old, aa.old, bc.old, c.old, y.old}; !slices.Equal(got, want) || e != api.OK {
		t.Fatalf("Dropped: %v, %d; want %v", got, e, want)
	}
	got, e = plan.Dropped(w.a, top.root(), aa.tree())
	if want := []api.Handle{top.old, x.old, ab.old, b.old, bc.old, c.old, y.old}; !slices.Equal(got, want) || e != api.OK {
		t.Fatalf("Dropped: %v, %d; want %v", got, e, want)
	}
	w.ends()
}
