package plan_test

import (
	"math"
	"math/rand"
	"slices"
	"testing"

	"quarto/api"
	"quarto/plan"
)

// isPlan checks that a plan which a call returned is valid, has this text, and is not higher than that.
func (w *world) isPlan(call string, t api.Tree, text string, height int) {
	w.t.Helper()
	if e := plan.Check(w.a, t); e != api.OK || t.Height > height {
		w.t.Fatalf("%s: %s, which Check calls %d; at most of height %d", call, show(t), e, height)
	}
	if got, e := plan.Text(w.a, t); got != text || e != api.OK {
		w.t.Fatalf("%s: the text %.80q, %d; want %.80q", call, got, e, text)
	}
}

// P15.7 and P15.8: the texts and heights of plans that are merged, joined and cut again and again, without the definitions.
func TestTexts(t *testing.T) {
	w := mixed(t)
	l := w.ordinary()
	r := rand.New(rand.NewSource(157))
	for range 4000 {
		x, y := l[r.Intn(len(l))], l[r.Intn(len(l))]
		left, _ := plan.Text(w.a, x)
		right, _ := plan.Text(w.a, y)
		if len(left)+len(right) > 3000 {
			x, left = api.Tree{}, ""
		}
		c, e := plan.Concat(w.a, x, y)
		if e != api.OK {
			t.Fatalf("Concat%s: %d", show(x, y), e)
		}
		w.isPlan("Concat", c, left+right, max(x.Height, y.Height)+1)
		all, e := plan.Merge(w.a, x, y)
		if (e == api.ErrArg) != (left == "" || right == "") || len(all) > 2 {
			t.Fatalf("Merge%s: %s, %d", show(x, y), show(all...), e)
		}
		text := ""
		for _, z := range all {
			part, _ := plan.Text(w.a, z)
			w.isPlan("Merge", z, part, z.Height)
			w.levels(x, y, all...)
			text += part
		}
		if e == api.OK && text != left+right {
			t.Fatalf("Merge%s: %s", show(x, y), show(all...))
		}
		at := r.Intn(len(left) + len(right) + 1)
		m, n, e := plan.Cut(w.a, c, at)
		if e != api.OK {
			t.Fatalf("Cut at %d of %s: %d", at, show(c), e)
		}
		w.isPlan("Cut", m, (left + right)[:at], c.Height)
		w.isPlan("Cut", n, (left + right)[at:], c.Height)
		l = append(l, []api.Tree{c, m, n}[r.Intn(3)])
	}
	w.stays("these calls", 0)
	w.ends()
}

// P15.7, P15.8 and P15.9: a plan that is edited many times, and sometimes written, so that it keeps nodes of several ropes.
func TestEdited(t *testing.T) {
	for seed := range 4 {
		w := start(t, 16384, 1)
		r := rand.New(rand.NewSource(int64(seed)))
		x, text := api.Tree{}, ""
		for step := range 600 {
			if step%50 == 49 && w.stats.Free > 6000 {
				x = w.write(w.full(x)).tree()
			}
			at := r.Intn(len(text) + 1)
			n := min(r.Intn(1+step%60), len(text)-at)
			s := w.text(r.Intn(40 + 400*(step%20/19)))
			y, e := plan.Replace(w.a, x, at, n, s)
			if e != api.OK {
				t.Fatalf("Replace of %d bytes at %d by %d of %s: %d", n, at, len(s), show(x), e)
			}
			if is, most := plan.New(y), 12*(x.Height+2)+plan.New(built(s).tree()); x.Old != 0 && is > most {
				t.Fatalf("Replace of %d bytes at %d by %d of %s: %d new nodes, which are more than %d", n, at, len(s), show(x), is, most)
			}
			x, text = y, text[:at]+s+text[at+n:]
			w.isPlan("Replace", x, text, highest)
		}
		w.stays("these calls", 0)
		w.ends()
	}
}

// tall are ropes of many heights: each inner node has the same child 2, 3 or 4 times, down to a leaf that is as short as can be, or not.
func tall(t *testing.T) *world {
	w := start(t, 1000, 1)
	for n := fewest; n <= manyKids; n++ {
		for _, bytes := range []int{8, 9, 15, 16} {
			for x := w.leaf(bytes); x.m.Bytes*n <= mostText; {
				x = w.inner(slices.Repeat([]*full{x}, n)...)
			}
		}
	}
	return w
}

// P15.9 and P15.4: Replace of ropes of all heights, at and around the ends of their nodes and elsewhere.
func TestPathCopying(t *testing.T) {
	w := tall(t)
	r := rand.New(rand.NewSource(159))
	heights := map[int]bool{}
	for _, x := range w.kept(-1) {
		heights[x.Height] = true
		offsets := []int{0, x.M.Bytes, x.M.Bytes / 2, x.M.Bytes/2 - 1, x.M.Bytes/2 + 1, x.M.Bytes / 3, x.M.Bytes / 4, 1, x.M.Bytes - 1}
		for range 4 {
			offsets = append(offsets, r.Intn(x.M.Bytes+1))
		}
		for _, at := range offsets {
			for _, end := range []int{at, at + 1, x.M.Bytes, x.M.Bytes - 1, at + r.Intn(x.M.Bytes-at+1), at + r.Intn(min(x.M.Bytes-at, 100)+1)} {
				s := w.text([]int{0, 1, 17, 120}[r.Intn(4)])
				if end < at || end > x.M.Bytes || x.M.Bytes-(end-at)+len(s) > mostText {
					continue
				}
				if e := w.isReplace(x, at, end-at, s); e != api.OK {
					t.Fatalf("Replace: %d", e)
				}
			}
		}
	}
	if len(heights) != 14 {
		t.Fatalf("these heights: %v", heights)
	}
	w.ends()
}

// P15.7 and P15.8 at the greatest heights: Merge, Concat and Cut of ropes of all heights.
func TestTall(t *testing.T) {
	w := tall(t)
	r := rand.New(rand.NewSource(158))
	l := slices.DeleteFunc(w.kept(-1), func(x api.Tree) bool { return x.M.Bytes > 8000 && r.Intn(3) > 0 })
	for i, x := range l {
		for _, y := range []api.Tree{l[r.Intn(len(l))], l[r.Intn(len(l))], l[len(l)-1-i], leafOf("abc"), leafOf("abcdefghijkl")} {
			w.isConcat(x, y)
			w.isConcat(y, x)
			w.isMerge(x, y)
			w.isMerge(y, x)
		}
		for range 6 {
			w.isCut(x, r.Intn(x.M.Bytes+1))
		}
	}
	w.ends()
}

// P15.8: no plan of as many bytes has fewer nodes than that of Build, nor is lower. The least number of nodes is found by trying all sizes of all Kids.
func TestBuildLeast(t *testing.T) {
	const most, none = 420, math.MaxInt32
	row := func() []int { return slices.Repeat([]int{none}, most+1) }
	least, height := row(), row() // of all plans of as many bytes
	better := func(level []int, h int) {
		for n, nodes := range level {
			if nodes < least[n] {
				least[n] = nodes
			}
			if nodes < none && height[n] == none {
				height[n] = h
			}
		}
	}
	alone, level := row(), row()
	for n := 1; n <= longest; n++ {
		alone[n] = 1
		if n >= shortest {
			level[n] = 1
		}
	}
	better(alone, 0)
	for h := 1; h <= 6; h++ {
		above, sum := row(), slices.Clone(level)
		for kids := fewest; kids <= manyKids; kids++ {
			next := row()
			for n := range next {
				for m := 1; m < n; m++ {
					if sum[n-m] < none && level[m] < none {
						next[n] = min(next[n], sum[n-m]+level[m])
					}
				}
			}
			sum = next
			for n := range above {
				if sum[n] < none {
					above[n] = min(above[n], sum[n]+1)
				}
			}
		}
		level = above
		better(level, h)
	}
	w := start(t, 1, 1)
	for n := 1; n <= most; n++ {
		x, e := plan.Build(w.text(n))
		if e != api.OK || plan.New(x) != least[n] || x.Height != height[n] {
			t.Fatalf("Build of %d bytes: %d nodes, height %d, %d; the least are %d and %d", n, plan.New(x), x.Height, e, least[n], height[n])
		}
	}
}

// any calls every function with plans that are valid and not whole, about which it is only known that no result comes beside an error, and that the arena, the arguments and other results stay as they are.
func (w *world) any(x, y api.Tree, root api.Root) (failed int) {
	w.t.Helper()
	before := w.a.Stats().Stale
	args := []api.Tree{x, y}
	passed := roomy(args...)
	bytes := x.M.Bytes + len(x.Text)
	for _, at := range []int{0, 1, 8, 9, bytes / 2, bytes - 1, bytes} {
		for _, f := range []func() ([]api.Tree, []api.Handle, string, api.Errno){
			func() ([]api.Tree, []api.Handle, string, api.Errno) {
				l, e := plan.Merge(w.a, passed[0], passed[1])
				return l, nil, "", e
			},
			func() ([]api.Tree, []api.Handle, string, api.Errno) {
				t, e := plan.Concat(w.a, passed[0], passed[1])
				return []api.Tree{t}, nil, "", e
			},
			func() ([]api.Tree, []api.Handle, string, api.Errno) {
				l, r, e := plan.Cut(w.a, passed[0], at)
				return []api.Tree{l, r}, nil, "", e
			},
			func() ([]api.Tree, []api.Handle, string, api.Errno) {
				t, e := plan.Replace(w.a, passed[0], at, min(9, max(bytes-at, 0)), "some text")
				return []api.Tree{t}, nil, "", e
			},
			func() ([]api.Tree, []api.Handle, string, api.Errno) {
				text, e := plan.Text(w.a, passed[0])
				return nil, nil, text, e
			},
			func() ([]api.Tree, []api.Handle, string, api.Errno) {
				l, e := plan.Dropped(w.a, root, passed[1])
				return nil, l, "", e
			},
		} {
			l, hs, text, e := f()
			rest := slices.DeleteFunc(slices.Clone(l), isEmpty)
			if e != api.OK && (len(rest) > 0 || len(hs) > 0 || text != "") {
				w.t.Fatalf("of %s at %d: the error %d, and %s, %v, %q", show(args...), at, e, show(l...), hs, text)
			}
			if e != api.OK {
				failed++
			}
			of := map[*api.Tree]bool{}
			places(of, passed...)
			if places(of, l...) {
				w.t.Fatalf("of %s at %d: memory is shared", show(args...), at)
			}
			spoil(l...)
		}
	}
	if !inRoom(passed, args) {
		w.t.Fatalf("%s became %s", show(args...), show(passed...))
	}
	w.stays("of "+show(args...), w.a.Stats().Stale-before)
	return failed
}

// S5: plans that are valid and not whole, since one node below a kept one was freed, or all of them.
func TestNotWhole(t *testing.T) {
	failed := 0
	for gone := range 12 {
		w := start(t, 60, 2)
		light := w.inner(w.inner(w.leaf(8), w.leaf(9)), w.inner(w.leaf(10), w.leaf(11), w.leaf(16)))
		other := w.write(built(w.text(100)))
		below := slices.Concat(light.kids, light.kids[0].kids, light.kids[1].kids)
		for i, f := range below {
			if i == gone || gone >= len(below) && i >= gone-len(below) {
				w.free(f)
			}
		}
		x, y := light.tree(), other.tree()
		failed += w.any(x, y, other.root())
		failed += w.any(y, x, light.root())
		failed += w.any(x, x, light.root())
		failed += w.any(innerOf(3, x, x), y, light.root())
		failed += w.any(innerOf(3, y, x, y), innerOf(3, x, innerOf(2, y.Kids...)), other.root())
		failed += w.any(x, leafOf("abc"), light.root())
		failed += w.any(leafOf("abc"), x, light.root())
		w.checks(x, api.OK)
		w.isKeep(light.root())
		w.checks(innerOf(3, x, x), api.OK)
		w.ends()
	}
	if failed < 100 {
		t.Fatalf("only %d calls returned an error", failed)
	}
}

// R3: the same memory as both arguments, and as several Kids; what is returned shares none of it, and has none twice.
func TestMemory(t *testing.T) {
	w := mixed(t)
	kept := w.kept(0)
	for _, leaf := range []api.Tree{leafOf("abcdefgh"), kept[4], leafOf("0123456789abcdef")} {
		for height := 1; height <= 3; height++ {
			x := doubled(leaf, height) // of which all nodes of a height are in the same memory
			f := w.full(x)
			n := len(f.text)
			for at := range n + 1 {
				l, e := plan.Merge(w.a, x, x)
				c, e2 := plan.Concat(w.a, x, x)
				left, right, e3 := plan.Cut(w.a, x, at)
				r, e4 := plan.Replace(w.a, x, at, n-at, "0123456789")
				s, e5 := plan.Replace(w.a, x, at, 0, "")
				want := slices.Concat(trees(merged(f, f)...), trees(joined(f, f)), trees(replaced(f, at, n-at, "0123456789")), []api.Tree{x})
				before, after := divided(f, at)
				want = slices.Concat(want, trees(before, after))
				got := slices.Concat(l, []api.Tree{c, r, s, left, right})
				if !slices.EqualFunc(got, want, same) || e+e2+e3+e4+e5 != api.OK {
					t.Fatalf("at %d of %s: %s", at, show(x), show(got...))
				}
				of := map[*api.Tree]bool{}
				places(of, x)
				if places(of, got...) {
					t.Fatalf("at %d of %s: memory is shared", at, show(x))
				}
				for i := range got {
					spoil(got[i])
					if !same(x, f.tree()) || !slices.EqualFunc(got[i+1:], want[i+1:], same) {
						t.Fatalf("at %d of %s: after the result %d was written over", at, show(x), i)
					}
				}
			}
		}
	}
	w.ends()
}

// R3: what is behind the end of a list of Kids is not read.
func TestBehind(t *testing.T) {
	w := mixed(t)
	row := []api.Tree{leafOf("abcdefgh"), w.kept(0)[3], leafOf("x"), {Old: 1 << 63}, leafOf("y")}
	for n := range len(row) + 1 {
		x := innerOf(1, row[:n]...)
		w.isCheck(x)
		w.isCounted(x)
	}
	x := innerOf(1, row[:2]...)
	text, e := plan.Text(w.a, x)
	if text != "abcdefgh"+w.full(row[1]).text || e != api.OK || plan.New(x) != 2 || !slices.Equal(plan.Kept(x), []api.Handle{row[1].Old}) {
		t.Fatalf("of two Kids: %q, %d, New %d, Kept %v", text, e, plan.New(x), plan.Kept(x))
	}
	w.ends()
}

// R1: plans that contain themselves, or more nodes than can be counted one by one, which are not valid.
func TestEndless(t *testing.T) {
	w := mixed(t)
	self := make([]api.Tree, 2)
	self[0], self[1] = innerOf(1, self...), innerOf(1, self...)
	wide := make([]api.Tree, 100000)
	for i := range wide {
		wide[i] = innerOf(2, wide...)
	}
	ring := [][]api.Tree{make([]api.Tree, 3), make([]api.Tree, 3)}
	for i := range 3 {
		ring[0][i], ring[1][i] = innerOf(2, ring[1]...), innerOf(1, ring[0]...)
	}
	leaf := api.Tree{Text: "abcdefgh", Kids: make([]api.Tree, 1)}
	leaf.Kids[0] = leaf
	keeps := w.kept(0)[0]
	keeps.Kids = make([]api.Tree, 1)
	keeps.Kids[0] = keeps
	for _, x := range []api.Tree{self[0], innerOf(2, self...), wide[0], innerOf(3, wide...), ring[0][0], ring[1][0], innerOf(16, ring[1]...), leaf, keeps, doubled(leafOf("abcdefgh"), 200), doubled(w.kept(0)[0], 200), {Height: math.MaxInt, Kids: self}} {
		left, right, e3 := plan.Cut(w.a, x, 1)
		c, e2 := plan.Concat(w.a, leafOf("abc"), x)
		r, e4 := plan.Replace(w.a, x, 0, 0, "")
		l, e5 := plan.Merge(w.a, x, x)
		text, e6 := plan.Text(w.a, x)
		hs, e7 := plan.Dropped(w.a, api.Root{}, x)
		for i, e := range []api.Errno{plan.Check(w.a, x), e2, e3, e4, e5, e6, e7} {
			if e != api.ErrShape {
				t.Fatalf("the function %d: %d", i, e)
			}
		}
		if len(l) > 0 || len(hs) > 0 || text != "" || !isEmpty(left) || !isEmpty(right) || !isEmpty(c) || !isEmpty(r) {
			t.Fatalf("something was returned beside an error")
		}
		plan.New(x)
		plan.Kept(x)
	}
	w.stays("these calls", 0)
	w.ends()
}
