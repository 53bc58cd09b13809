package rope_test

import (
	"math"
	"math/rand"
	"slices"
	"strings"
	"testing"

	"quarto/api"
	"quarto/arena"
	"quarto/plan"
	"quarto/rope"
)

// state is what two arenas are to have in common.
func state(t *testing.T, a *arena.Arena) (nodes map[api.Handle]api.Node, free, withdrawn []int) {
	t.Helper()
	nodes = map[api.Handle]api.Node{}
	for _, at := range a.Handles() {
		x, e := a.Get(at)
		if e != api.OK {
			t.Fatalf("Get(%s): %d", name(at), e)
		}
		nodes[at] = x
	}
	free, withdrawn = a.Slots()
	return nodes, free, withdrawn
}

// isTwin checks that two arenas have the same nodes in the same slots, and the same free slots.
func isTwin(t *testing.T, a, b *arena.Arena) {
	t.Helper()
	nodes, free, gone := state(t, a)
	others, free2, gone2 := state(t, b)
	if len(nodes) != len(others) || !slices.Equal(free, free2) || !slices.Equal(gone, gone2) {
		t.Fatalf("%d and %d nodes; %d and %d are free, %d and %d are withdrawn", len(nodes), len(others), free, free2, gone, gone2)
	}
	for at, x := range nodes {
		if y := others[at]; x.Height != y.Height || x.Text != y.Text || !slices.Equal(x.Kids, y.Kids) {
			t.Fatalf("the node %s is %v in one arena and %v in the other", name(at), x, y)
		}
	}
}

// P16.7: Write, New and a pen that is stepped until it is done write the same nodes to the same slots, whatever was written and freed before.
func TestSameSlots(t *testing.T) {
	for seed := range 12 {
		r := rand.New(rand.NewSource(int64(seed)))
		a, _ := arena.New(300, 3)
		b, _ := arena.New(300, 3)
		var roots []api.Root
		text := func(n int) string { return strings.Repeat("ab\ncd\xc3\xa4", n/7+1)[:n] }
		for range 60 {
			var x api.Tree
			s := text(r.Intn(60))
			if len(roots) > 0 && r.Intn(2) > 0 {
				kept, e := plan.Keep(a, roots[r.Intn(len(roots))])
				if e != api.OK {
					t.Fatalf("Keep: %d", e)
				}
				at := r.Intn(kept.M.Bytes + 1)
				x, e = plan.Replace(a, kept, at, r.Intn(kept.M.Bytes-at+1), s)
				if e != api.OK {
					t.Fatalf("Replace: %d", e)
				}
			} else {
				x, _ = plan.Build(s)
			}
			root, fresh, e := rope.Write(a, x)
			p, e2 := rope.Begin(b, x)
			if e != e2 {
				t.Fatalf("Write and Begin of %s: %d, %d", show(x), e, e2)
			}
			if e == api.OK {
				var stepped []api.Handle
				for done := plan.New(x) == 0; !done; {
					var at api.Handle
					at, done, _ = p.Step()
					stepped = append(stepped, at)
				}
				other, e := p.Root()
				if root != other || e != api.OK || !slices.Equal(fresh, stepped) {
					t.Fatalf("of %s: %v, %s by Write; %v, %s by a pen, %d", show(x), root, names(fresh), other, names(stepped), e)
				}
				roots = append(roots, root)
			}
			isTwin(t, a, b)
			if len(roots) > 5 || e == api.ErrFull && len(roots) > 0 {
				root := roots[0]
				roots = roots[1:]
				n, e := rope.Free(a, root)
				n2, e2 := rope.Free(b, root)
				if n != n2 || e != e2 {
					t.Fatalf("Free: %d, %d and %d, %d", n, e, n2, e2)
				}
				// The others may have shared nodes with it.
				roots = slices.DeleteFunc(roots, func(root api.Root) bool {
					e, e2 := rope.Check(a, root), rope.Check(b, root)
					if e != e2 {
						t.Fatalf("Check: %d and %d", e, e2)
					}
					return e != api.OK
				})
			}
			isTwin(t, a, b)
		}
	}
}

// isShaped checks that a rope has the shape of P16.8, by the arena alone, and returns its text.
func isShaped(t *testing.T, a *arena.Arena, root api.Root) string {
	t.Helper()
	depths := map[int]bool{}
	var text strings.Builder
	var walk func(at api.Handle, depth int)
	walk = func(at api.Handle, depth int) {
		x, e := a.Get(at)
		if e != api.OK {
			t.Fatalf("Get(%s): %d", name(at), e)
		}
		if len(x.Kids) == 0 {
			depths[depth] = true
			if n := len(x.Text); n < 1 || n > longest || depth > 0 && n < shortest {
				t.Fatalf("a leaf of %d bytes at the depth %d", n, depth)
			}
			text.WriteString(x.Text)
			return
		}
		if len(x.Kids) < fewest || len(x.Kids) > manyKids || x.Text != "" {
			t.Fatalf("an inner node %v", x)
		}
		for _, k := range x.Kids {
			walk(k.At, depth+1)
		}
	}
	if root != (api.Root{}) {
		walk(root.At, 0)
		if len(depths) != 1 || !depths[root.Height] {
			t.Fatalf("leaves at the depths %v of a rope of height %d", depths, root.Height)
		}
	}
	n := text.Len()
	if root.Height > 0 && 8<<root.Height > n || root.M != measured(text.String()) {
		t.Fatalf("a rope %v of %d bytes", root, n)
	}
	return text.String()
}

// P16.7 and P16.8: ropes that are edited again and again, by Write and by pens; all that were written before keep their texts.
func TestEdited(t *testing.T) {
	for seed := range 4 {
		w := start(t, 16384, 1)
		r := rand.New(rand.NewSource(int64(100 + seed)))
		type known struct {
			root api.Root
			text string
		}
		all := []known{{}}
		for step := range 300 {
			from := all[r.Intn(len(all))]
			at := r.Intn(len(from.text) + 1)
			n := min(r.Intn(1+step%60), len(from.text)-at)
			s := w.text(r.Intn(40 + 400*(step%20/19)))
			kept, e := plan.Keep(w.a, from.root)
			x, e2 := plan.Replace(w.a, kept, at, n, s)
			if e != api.OK || e2 != api.OK {
				t.Fatalf("Keep, Replace: %d, %d", e, e2)
			}
			if plan.New(x) > w.a.Stats().Free {
				break
			}
			p, e := rope.Begin(w.a, x)
			if e != api.OK {
				t.Fatalf("Begin: %d", e)
			}
			root := api.Root{}
			if step%2 == 0 {
				root, _, e = rope.Write(w.a, x)
			} else {
				for done := false; !done; {
					_, done, _ = p.Step()
				}
				root, e = p.Root()
			}
			to := known{root, from.text[:at] + s + from.text[at+n:]}
			if got := isShaped(t, w.a, root); e != api.OK || got != to.text {
				t.Fatalf("the text %.80q, %d; want %.80q", got, e, to.text)
			}
			all = append(all, to)
		}
		for _, x := range all {
			text, e := rope.Text(w.a, x.root)
			leaves, e2 := rope.Leaves(w.a, x.root)
			if text != x.text || strings.Join(leaves, "") != x.text || e != api.OK || e2 != api.OK || isShaped(t, w.a, x.root) != x.text {
				t.Fatalf("the rope %v became %.80q, %d, %d; want %.80q", x.root, text, e, e2, x.text)
			}
		}
		if s := w.a.Stats(); len(all) < 200 || s.Stale > 0 || s.Frees > 0 {
			t.Fatalf("%d ropes, %+v", len(all), s)
		}
	}
}

// P16.8: the heights and shapes of the ropes of New.
func TestShape(t *testing.T) {
	w := start(t, 5461, 1<<20)
	for n := 0; n <= mostText; n += 1 + n/40 {
		s := w.text(n)
		root, e := rope.New(w.a, s)
		if e != api.OK || isShaped(t, w.a, root) != s {
			t.Fatalf("New of %d bytes: %v, %d", n, root, e)
		}
		if _, e := rope.Free(w.a, root); e != api.OK {
			t.Fatalf("Free: %d", e)
		}
	}
}

// P16.8: the highest ropes that there are: each node has 2 children, and each leaf 8 bytes; with all nodes new, and with kept ones.
func TestHighest(t *testing.T) {
	for height := 0; height <= 13; height++ {
		w := start(t, 16384, 1)
		x := doubled(leafOf("ab\ndefgh"), height)
		f := w.written(x)
		if len(w.live) != 2<<height-1 {
			t.Fatalf("height %d: %d nodes", height, len(w.live))
		}
		isShaped(t, w.a, f.root())
		w.reads(f.root())
		if e := w.frees(f.root()); e != api.OK {
			t.Fatalf("Free: %d", e)
		}
		if height > 9 {
			continue
		}
		w = start(t, 16384, 1)
		f = w.leaf(8)
		for range height {
			f = w.pen(innerOf(f.height+1, f.keeps(), f.keeps())).finishes()
		}
		if len(w.live) != height+1 || len(leavesOf(f)) != 1<<height {
			t.Fatalf("height %d: %d nodes", height, len(w.live))
		}
		isShaped(t, w.a, f.root())
		w.reads(f.root())
		w.frees(f.root())
		w.ends()
	}
}

// P16.9: Write uses as many slots as plan.New says, and Free gives back what New took, unless slots are withdrawn.
func TestSlots(t *testing.T) {
	w := mixed(t)
	for _, x := range w.ordinary() {
		before := w.a.Stats()
		_, fresh, e := rope.Write(w.a, x)
		after := w.a.Stats()
		if n := plan.New(x); e != api.OK || len(fresh) != n || before.Free-after.Free != n || after.Allocs-before.Allocs != n || after.Stale != before.Stale {
			t.Fatalf("Write%s: %d, %d handles, %d new nodes; the arena became %+v, from %+v", show(x), e, len(fresh), n, after, before)
		}
	}
	for gens := uint64(1); gens < 4; gens++ {
		a, _ := arena.New(200, gens)
		for n := range 500 {
			before := a.Stats()
			root, e := rope.New(a, strings.Repeat("x", n))
			if e == api.ErrFull {
				continue
			}
			count, e2 := rope.Free(a, root)
			after := a.Stats()
			if e != api.OK || e2 != api.OK || after.Free+after.Withdrawn != before.Free+before.Withdrawn || after.Withdrawn > after.Slots || after.Live != 0 || count != after.Frees-before.Frees {
				t.Fatalf("New and Free of %d bytes: %d, %d, %d; the arena became %+v, from %+v", n, e, count, e2, after, before)
			}
			if after.Withdrawn == before.Withdrawn && after.Free != before.Free {
				t.Fatalf("New and Free of %d bytes: %+v, from %+v", n, after, before)
			}
		}
	}
}

// chance makes one call of any sort with what is there, and holds it against the model.
func (w *world) chance(r *rand.Rand, pens []*pen) []*pen {
	w.t.Helper()
	anyRoot := func() api.Root {
		if len(w.at) == 0 || r.Intn(20) == 0 {
			return api.Root{At: api.Handle(r.Intn(3)), Height: r.Intn(2)}
		}
		root := w.fulls[w.at[max(len(w.at)-1-r.Intn(40), 0)]].root()
		if r.Intn(12) == 0 {
			root.M.Runes++
		}
		return root
	}
	// Valid, unless some of what it keeps was lost.
	anyPlan := func() api.Tree {
		x := w.random(r, r.Intn(3))
		if r.Intn(3) == 0 && len(w.at) > 0 {
			f := w.fulls[w.at[r.Intn(len(w.at))]]
			x = innerOf(f.height+1, f.keeps(), w.random(r, f.height))
		}
		if r.Intn(6) == 0 {
			x = leafOf(w.text(1 + r.Intn(17)))
		}
		return x
	}
	switch r.Intn(9) {
	case 0:
		w.writes(anyPlan())
	case 1:
		w.makes(w.text(r.Intn(70)))
	case 2:
		w.reads(anyRoot())
	case 3, 4:
		w.frees(anyRoot())
	case 5:
		if p, e := w.begins(anyPlan()); e == api.OK {
			pens = append(pens, p)
		}
	case 6:
		if l := w.ropes(); len(l) > 0 {
			w.loses(l[r.Intn(len(l))])
		}
	default:
		if len(pens) > 0 {
			pens[r.Intn(len(pens))].steps()
		}
		pens = pens[max(len(pens)-4, 0):]
	}
	for _, p := range pens {
		p.roots()
	}
	return pens
}

// P16.1 to P16.6 together: calls of all sorts in small arenas, until hardly a slot is left.
func TestChance(t *testing.T) {
	for seed := range 60 {
		r := rand.New(rand.NewSource(int64(1600 + seed)))
		w := start(t, 1+r.Intn(40), uint64(1+r.Intn(12)))
		var pens []*pen
		for range 300 {
			pens = w.chance(r, pens)
		}
		w.ends()
	}
}

// R3: the plan may be written over as soon as Begin has returned, and all that was returned, too.
func TestKeepsNothing(t *testing.T) {
	a, _ := arena.New(20, 2)
	kids := []api.Tree{leafOf("abcdefgh"), leafOf("ijklmnop"), leafOf("qrstuvwx")}
	x := innerOf(2, innerOf(1, kids...), innerOf(1, kids[1:]...))
	p, e := rope.Begin(a, x)
	if e != api.OK {
		t.Fatalf("Begin: %d", e)
	}
	for i := range 8 {
		kids[i%3] = leafOf("overwritten!")
		x.Kids[i%2] = leafOf("overwritten!")
		if _, done, e := p.Step(); done != (i == 7) || e != api.OK {
			t.Fatalf("Step %d: %v, %d", i, done, e)
		}
	}
	root, e := p.Root()
	const want = "abcdefghijklmnopqrstuvwxijklmnopqrstuvwx"
	if text := isShaped(t, a, root); text != want || e != api.OK {
		t.Fatalf("%q, %d", text, e)
	}
	_, fresh, e := rope.Write(a, innerOf(1, leafOf("abcdefgh"), leafOf("ijklmnop")))
	_, other, e2 := rope.Write(a, innerOf(1, leafOf("abcdefgh"), leafOf("ijklmnop")))
	if e != api.OK || e2 != api.OK {
		t.Fatalf("Write: %d, %d", e, e2)
	}
	spoilAll(fresh, 77)
	if !slices.Equal(other, []api.Handle{h(11, 1), h(12, 1), h(13, 1)}) {
		t.Fatalf("another result became %s", names(other))
	}
	nodes, _ := rope.Nodes(a, root)
	leaves, _ := rope.Leaves(a, root)
	spoilAll(nodes, 77)
	spoilAll(leaves, "spoiled")
	if text := isShaped(t, a, root); text != want || rope.Check(a, root) != api.OK {
		t.Fatalf("%q, after what was returned was written over", text)
	}
}

// R3: the same memory at several places of a plan: its nodes are written once for each place.
func TestShared(t *testing.T) {
	w := start(t, 100, 1)
	kept := w.inner(w.leaf(8), w.leaf(9))
	kids := []api.Tree{leafOf("abcdefgh"), kept.kids[0].keeps(), leafOf("ijklmnop")}
	low := innerOf(1, kids...)
	mid := []api.Tree{low, low, kept.keeps(), low}
	top := innerOf(3, innerOf(2, mid...), innerOf(2, mid[1:]...), innerOf(2, mid[:2]...))
	for range 2 {
		f := w.written(top)
		if n := len(f.preorder()); n != 1+3+9+3*7+2*2 {
			t.Fatalf("%d nodes", n)
		}
		if !same(top.Kids[0], innerOf(2, mid...)) {
			t.Fatalf("the plan became %s", show(top))
		}
		isShaped(t, w.a, f.root())
		w.pen(top).steps()
	}
	w.ends()
}

// R1: plans that contain themselves, or more nodes than can be counted one by one, which are not valid.
func TestEndless(t *testing.T) {
	w := mixed(t)
	self := make([]api.Tree, 2)
	self[0], self[1] = innerOf(1, self...), innerOf(1, self...)
	wide := make([]api.Tree, 100000)
	for i := range wide {
		wide[i] = innerOf(2, wide...)
	}
	ring := [][]api.Tree{make([]api.Tree, 3), make([]api.Tree, 3)}
	for i := range 3 {
		ring[0][i], ring[1][i] = innerOf(2, ring[1]...), innerOf(1, ring[0]...)
	}
	leaf := api.Tree{Text: "abcdefgh", Kids: make([]api.Tree, 1)}
	leaf.Kids[0] = leaf
	for _, x := range []api.Tree{self[0], innerOf(2, self...), wide[0], innerOf(3, wide...), ring[0][0], innerOf(16, ring[1]...), leaf, doubled(leafOf("abcdefgh"), 200), {Height: math.MaxInt, Kids: self}} {
		root, fresh, e := rope.Write(w.a, x)
		p, e2 := rope.Begin(w.a, x)
		if root != (api.Root{}) || len(fresh) > 0 || e != api.ErrShape || p != nil || e2 != api.ErrShape {
			t.Fatalf("Write and Begin: %v, %v, %d; %v, %d", root, fresh, e, p, e2)
		}
	}
	// Behind the end of the Kids of a plan there may be anything.
	row := []api.Tree{leafOf("abcdefgh"), leafOf("ijklmnop"), self[0], leaf}
	f := w.written(innerOf(1, row[:2]...))
	w.pen(innerOf(1, row[:2:3]...)).finishes()
	if f.text != "abcdefghijklmnop" {
		t.Fatalf("the text %q", f.text)
	}
	w.ends()
}

// R1: a pen that Begin did not make, about which nothing is promised but that it does not panic.
func TestZeroPen(t *testing.T) {
	p := new(rope.Pen)
	p.Root()
	p.Step()
	p.Root()
}
