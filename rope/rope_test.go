package rope_test

import (
	"math"
	"math/rand"
	"slices"
	"strings"
	"testing"

	"quarto/api"
	"quarto/arena"
	"quarto/plan"
	"quarto/rope"
)

// h is a handle by its text form.
func h(slot int, gen int) api.Handle { return api.Handle(gen<<16 + slot) }

// ascii is the measure of n bytes that are letters.
func ascii(n int) api.Measure { return api.Measure{Bytes: n, Runes: n} }

// The examples of the chapter.
func TestExamples(t *testing.T) {
	a, _ := arena.New(8, 4)
	x, e := rope.New(a, "abcdefghijklmnopq")
	if want := (api.Root{At: h(2, 1), Height: 1, M: ascii(17)}); x != want || e != api.OK {
		t.Fatalf("New: %v, %d; want %v", x, e, want)
	}
	nodes, e := rope.Nodes(a, x)
	leaves, e2 := rope.Leaves(a, x)
	if !slices.Equal(nodes, []api.Handle{h(2, 1), h(0, 1), h(1, 1)}) || !slices.Equal(leaves, []string{"abcdefghi", "jklmnopq"}) || e != api.OK || e2 != api.OK {
		t.Fatalf("Nodes, Leaves: %s, %d; %q, %d", names(nodes), e, leaves, e2)
	}
	kept, _ := plan.Keep(a, x)
	p, _ := plan.Replace(a, kept, 9, 0, "xyz")
	y, fresh, e := rope.Write(a, p)
	if want := (api.Root{At: h(4, 1), Height: 1, M: ascii(20)}); y != want || !slices.Equal(fresh, []api.Handle{h(3, 1), h(4, 1)}) || e != api.OK {
		t.Fatalf("Write: %v, %s, %d; want %v", y, names(fresh), e, want)
	}
	nodes, e = rope.Nodes(a, y)
	if !slices.Equal(nodes, []api.Handle{h(4, 1), h(3, 1), h(1, 1)}) || e != api.OK {
		t.Fatalf("Nodes: %s, %d", names(nodes), e)
	}
	if n, e := rope.Free(a, x); n != 3 || e != api.OK {
		t.Fatalf("Free: %d, %d", n, e)
	}
	if e := rope.Check(a, y); e != api.ErrStale {
		t.Fatalf("Check: %d", e)
	}
	zero, e := rope.New(a, "")
	if zero != (api.Root{}) || e != api.OK {
		t.Fatalf("New of nothing: %v, %d", zero, e)
	}
	if e, e2 := rope.Check(a, zero), rope.Check(a, api.Root{Height: 1}); e != api.OK || e2 != api.ErrArg {
		t.Fatalf("Check of the zero Root, and of a Height alone: %d, %d", e, e2)
	}
	if n, e := rope.Free(a, x); n != 0 || e != api.ErrStale {
		t.Fatalf("Free once more: %d, %d", n, e)
	}
	b, _ := plan.Build("abc")
	pen, e := rope.Begin(a, b)
	if pen == nil || e != api.OK {
		t.Fatalf("Begin: %v, %d", pen, e)
	}
	if r, e := pen.Root(); r != (api.Root{}) || e != api.ErrState {
		t.Fatalf("Root: %v, %d", r, e)
	}
	if at, done, e := pen.Step(); at != h(1, 2) || !done || e != api.OK {
		t.Fatalf("Step: %s, %v, %d", name(at), done, e)
	}
	if at, done, e := pen.Step(); at != 0 || !done || e != api.OK {
		t.Fatalf("Step of a pen that is done: %s, %v, %d", name(at), done, e)
	}
	if r, e := pen.Root(); r != (api.Root{At: h(1, 2), M: ascii(3)}) || e != api.OK {
		t.Fatalf("Root: %v, %d", r, e)
	}
}

// R5: without an arena there is ErrNil, whatever else is wrong, and nothing else; so it is without a pen.
func TestNil(t *testing.T) {
	var none *arena.Arena
	for _, x := range []api.Tree{{}, leafOf("abc"), {Old: 65536, M: ascii(1)}, {Height: 3}, leafOf(strings.Repeat("x", 17))} {
		root, fresh, e := rope.Write(none, x)
		pen, e2 := rope.Begin(none, x)
		if root != (api.Root{}) || len(fresh) > 0 || e != api.ErrNil || pen != nil || e2 != api.ErrNil {
			t.Fatalf("Write and Begin of %s: %v, %v, %d; %v, %d", show(x), root, fresh, e, pen, e2)
		}
	}
	for _, s := range []string{"", "abc", strings.Repeat("x", mostText+1)} {
		if root, e := rope.New(none, s); root != (api.Root{}) || e != api.ErrNil {
			t.Fatalf("New of %d bytes: %v, %d", len(s), root, e)
		}
	}
	for _, root := range []api.Root{{}, {Height: 1}, {At: 65536}} {
		text, e := rope.Text(none, root)
		nodes, e2 := rope.Nodes(none, root)
		leaves, e3 := rope.Leaves(none, root)
		n, e4 := rope.Free(none, root)
		for i, e := range []api.Errno{rope.Check(none, root), e, e2, e3, e4} {
			if e != api.ErrNil {
				t.Fatalf("the function %d of %v: %d", i, root, e)
			}
		}
		if text != "" || len(nodes) > 0 || len(leaves) > 0 || n != 0 {
			t.Fatalf("of %v: %q, %v, %q, %d", root, text, nodes, leaves, n)
		}
	}
	var pen *rope.Pen
	at, done, e := pen.Step()
	root, e2 := pen.Root()
	if at != 0 || done || e != api.ErrNil || root != (api.Root{}) || e2 != api.ErrNil {
		t.Fatalf("Step, Root: %d, %v, %d; %v, %d", at, done, e, root, e2)
	}
}

// P16.1: plans of all sorts, written one after another, while slots are freed between them.
func TestWrite(t *testing.T) {
	w := mixed(t)
	for i, x := range w.ordinary() {
		if !w.isWhole(w.full(x)) {
			w.written(x)
			continue
		}
		text, _ := plan.Text(w.a, x)
		f := w.written(x)
		if got, e := rope.Text(w.a, f.root()); got != text || e != api.OK {
			t.Fatalf("Write%s: the text %.80q, %d; want %.80q", show(x), got, e, text)
		}
		w.reads(f.root())
		switch {
		case plan.New(x) == 0:
		case i%2 == 0 && len(plan.Kept(x)) == 0:
			w.frees(f.root())
		case i%2 == 0:
			w.loses(f)
		}
	}
	if s := w.a.Stats(); s.Allocs < 120 || s.Frees < 20 {
		t.Fatalf("%+v", s)
	}
	w.ends()
}

// P16.1: a plan that writes nothing, with the empty one and with one that keeps a node, also if no slot is free.
func TestWriteNothing(t *testing.T) {
	for _, slots := range []int{3, 4} {
		w := start(t, slots, 1)
		x := w.inner(w.leaf(8), w.leaf(9))
		for _, f := range []*full{nil, x, x.kids[0], x.kids[1]} {
			root, fresh, e := rope.Write(w.a, f.keeps())
			if root != f.root() || len(fresh) > 0 || e != api.OK {
				t.Fatalf("Write%s: %v, %v, %d", show(f.keeps()), root, fresh, e)
			}
			w.written(f.keeps())
		}
		w.written(api.Tree{Kids: []api.Tree{}})
		if root, e := rope.New(w.a, ""); root != (api.Root{}) || e != api.OK {
			t.Fatalf("New of nothing: %v, %d", root, e)
		}
		w.ends()
	}
}

// P16.1 and R2: plans that are not valid, also if there are too few free slots. The error of a plan comes before ErrFull.
func TestWriteFaulty(t *testing.T) {
	w := mixed(t)
	for _, fill := range []bool{false, true} {
		for fill && len(w.stack) > 0 {
			w.leaf(3)
		}
		for want, l := range w.faulty() {
			for _, x := range l {
				if is := plan.Check(w.a, x); is != want {
					t.Fatalf("plan.Check%s: %d; want %d", show(x), is, want)
				}
				w.calls.Stale = w.a.Stats().Stale
				_, e := w.writes(x)
				pen, e2 := w.begins(x)
				if e != want || e2 != want || pen != nil {
					t.Fatalf("Write and Begin of %s: %d, %d; want %d", show(x), e, e2, want)
				}
			}
		}
	}
	if _, e := w.writes(leafOf("abc")); e != api.ErrFull {
		t.Fatalf("Write: %d", e)
	}
	if _, e := w.makes(strings.Repeat("x", mostText+1)); e != api.ErrLong {
		t.Fatalf("New: %d", e)
	}
	if _, e := w.makes("x"); e != api.ErrFull {
		t.Fatalf("New: %d", e)
	}
	w.ends()
}

// P16.1 and P16.5: as many free slots as there are new nodes, one fewer, and one more.
func TestFull(t *testing.T) {
	for _, n := range []int{1, 16, 17, 65, 129, 300, 1025} {
		for _, spare := range []int{-1, 0, 1} {
			for kind := range 4 {
				w := start(t, 500, 2)
				kept := w.inner(w.leaf(8), w.leaf(16))
				text := w.text(n)
				x := built(text).tree()
				if kind == 1 {
					x, _ = plan.Concat(w.a, kept.keeps(), x)
				}
				for len(w.stack) > max(plan.New(x)+spare, 0) {
					w.leaf(3)
				}
				want := api.OK
				if spare < 0 {
					want = api.ErrFull
				}
				e := api.OK
				var p *pen
				switch kind {
				case 2:
					_, e = w.makes(text)
				case 3:
					p, e = w.begins(x)
				default:
					_, e = w.writes(x)
				}
				if e != want || (kind == 3) && (p == nil) != (want != api.OK) {
					t.Fatalf("kind %d, %d bytes, %d slots to spare: %d", kind, n, spare, e)
				}
				if p != nil {
					p.finishes()
				}
				if e == api.OK && len(w.stack) != spare {
					t.Fatalf("kind %d, %d bytes: %d slots are free", kind, n, len(w.stack))
				}
				w.ends()
			}
		}
	}
}

// P16.1: strings of all lengths.
func TestNew(t *testing.T) {
	w := start(t, 900, 1<<32-1)
	var last []*full
	for n := range 700 {
		f, e := w.makes(w.text(n))
		if e != api.OK || w.reads(f.root()) != api.OK {
			t.Fatalf("New of %d bytes: %d", n, e)
		}
		last = append(last, f)
		if n%3 > 0 {
			w.frees(last[n%3-1].root())
			last = slices.Delete(last, n%3-1, n%3)
		}
		for len(last) > 4 {
			w.frees(last[0].root())
			last = last[1:]
		}
	}
	w.ends()
}

// P16.1: the longest strings, and ones that are too long.
func TestNewLong(t *testing.T) {
	for _, slots := range []int{5461, 5460, 16384, 1} {
		w := start(t, slots, 9)
		// Of 65,520 bytes there is a leaf fewer.
		for _, n := range []int{mostText, mostText - 1, 65520, mostText + 1, mostText + 2, 2 * mostText, 1 << 20} {
			want := api.OK
			if n > mostText {
				want = api.ErrLong
			} else if n > 65520 && slots < 5461 || slots < 5460 {
				want = api.ErrFull
			}
			f, e := w.makes(w.text(n))
			if e != want {
				t.Fatalf("New of %d bytes in %d slots: %d; want %d", n, slots, e, want)
			}
			if e == api.OK {
				w.reads(f.root())
				w.frees(f.root())
			}
		}
		w.ends()
	}
}

// P16.2: roots that are not those of a rope: At 0, handles that are not live, heights and measures that are not those of the node.
func TestCheckRoot(t *testing.T) {
	w := mixed(t)
	isRoot := func(root api.Root, want api.Errno) {
		t.Helper()
		if e := w.reads(root); e != want {
			t.Fatalf("Check(%v): %d; want %d", root, e, want)
		}
		if e := w.frees(root); e != want {
			t.Fatalf("Free(%v): %d; want %d", root, e, want)
		}
	}
	isRoot(api.Root{}, api.OK)
	for _, root := range []api.Root{{Height: 1}, {Height: -1}, {Height: math.MinInt}, {M: ascii(1)}, {M: api.Measure{Bytes: 1}}, {M: api.Measure{Runes: 1}}, {M: api.Measure{Lines: -1}}, {Height: 1, M: ascii(17)}} {
		isRoot(root, api.ErrArg)
	}
	for _, at := range []api.Handle{1, 2, 65535, h(899, 1), h(900, 1), h(16384, 1), h(65535, 1), h(0, 2), h(0, 4), h(0, 5), 1 << 48, 1 << 63, math.MaxUint64} {
		isRoot(api.Root{At: at}, api.ErrStale)
		isRoot(api.Root{At: at, Height: 7, M: ascii(-1)}, api.ErrStale)
	}
	for _, at := range w.at {
		f := w.fulls[at]
		if !w.live[at] {
			isRoot(f.root(), api.ErrStale)
			isRoot(api.Root{At: at}, api.ErrStale)
			continue
		}
		isRoot(api.Root{At: at}, api.ErrShape)
		for _, by := range []int{-1, 1, 16, math.MinInt} {
			for _, change := range []func(r *api.Root){
				func(r *api.Root) { r.Height += by },
				func(r *api.Root) { r.M.Bytes += by },
				func(r *api.Root) { r.M.Runes += by },
				func(r *api.Root) { r.M.Lines += by },
				func(r *api.Root) { r.Height -= by; r.M.Bytes += by },
			} {
				r := f.root()
				change(&r)
				isRoot(r, api.ErrShape)
			}
		}
	}
	w.ends()
}

// P16.2 and P16.3: ropes of all sorts, whole and not.
func TestRead(t *testing.T) {
	w := mixed(t)
	whole := map[bool]int{}
	for _, f := range w.ropes() {
		want := api.OK
		if !w.isWhole(f) {
			want = api.ErrStale
		}
		if e := w.reads(f.root()); e != want {
			t.Fatalf("Check of %s: %d; want %d", show(f.keeps()), e, want)
		}
		whole[w.isWhole(f)]++
	}
	if whole[true] < 30 || whole[false] < 2 {
		t.Fatalf("there are %v ropes", whole)
	}
	w.ends()
}

// P16.2: ropes of which one node is lost, or two, or all from one on in preorder: one stale access is counted, that at the first one.
func TestNotWhole(t *testing.T) {
	for lost := range 9 {
		for other := range 10 {
			w := start(t, 30, 2)
			low := []*full{w.leaf(8), w.leaf(9), w.leaf(10), w.leaf(11), w.leaf(16)}
			mid := []*full{w.inner(low[0], low[1]), w.inner(low[2], low[0], low[3]), w.inner(low[4], low[1])}
			top := w.inner(mid[0], mid[1], mid[0], mid[2])
			beside := w.inner(mid[2], mid[0])
			nodes := handlesOf(top)
			if len(nodes) != 9 {
				t.Fatalf("there are %d nodes", len(nodes))
			}
			for i, at := range nodes {
				if i == lost || i == other || other == 9 && i > lost {
					w.loses(w.fulls[at])
				}
			}
			if e := w.reads(top.root()); e != api.ErrStale {
				t.Fatalf("Check: %d", e)
			}
			// Check, Text, and Nodes and Leaves twice each.
			if n := w.a.Stats().Stale; n != 6 {
				t.Fatalf("6 calls counted %d stale accesses", n)
			}
			if e := w.frees(top.root()); e != api.ErrStale || w.a.Stats().Stale != 7 {
				t.Fatalf("Free: %d, and %d stale accesses in all", e, w.a.Stats().Stale)
			}
			w.reads(beside.root())
			for _, f := range slices.Concat(low, mid) {
				w.reads(f.root())
			}
			w.frees(beside.root())
			w.ends()
		}
	}
}

// P16.3: nodes that occur several times: their handles come once, where they are first, and their texts each time.
func TestRepeated(t *testing.T) {
	w := start(t, 8, 1)
	x, y := w.leaf(8), w.leaf(9)
	xy, yx := w.inner(x, y, x), w.inner(y, x)
	top := w.inner(yx, xy, yx, xy)
	high := w.inner(top, top)
	nodes, e := rope.Nodes(w.a, high.root())
	if want := []api.Handle{high.at, top.at, yx.at, y.at, x.at, xy.at}; !slices.Equal(nodes, want) || e != api.OK {
		t.Fatalf("Nodes: %s, %d; want %s", names(nodes), e, names(want))
	}
	leaves, e := rope.Leaves(w.a, high.root())
	row := []string{y.text, x.text, x.text, y.text, x.text}
	if !slices.Equal(leaves, slices.Concat(row, row, row, row)) || e != api.OK {
		t.Fatalf("Leaves: %q, %d", leaves, e)
	}
	w.reads(high.root())
	if n, _ := w.a.Slots(); !slices.Equal(n, []int{6, 7}) {
		t.Fatalf("free: %d", n)
	}
	if e := w.frees(high.root()); e != api.OK {
		t.Fatalf("Free: %d", e)
	}
	w.ends()
}

// P16.4: the order in which nodes are freed, by the free slots; a second time it is ErrStale.
func TestFreeOrder(t *testing.T) {
	a, _ := arena.New(9, 2)
	x, _ := rope.New(a, strings.Repeat("x", 70)) // 3 leaves and 3.1 over them, 2 leaves and 6.1 over them, and 7.1 over both
	nodes, e := rope.Nodes(a, x)
	if want := []api.Handle{h(7, 1), h(3, 1), h(0, 1), h(1, 1), h(2, 1), h(6, 1), h(4, 1), h(5, 1)}; e != api.OK || !slices.Equal(nodes, want) {
		t.Fatalf("Nodes: %s, %d; want %s", names(nodes), e, names(want))
	}
	if n, e := rope.Free(a, x); n != 8 || e != api.OK {
		t.Fatalf("Free: %d, %d", n, e)
	}
	if free, gone := a.Slots(); !slices.Equal(free, []int{5, 4, 6, 2, 1, 0, 3, 7, 8}) || len(gone) > 0 {
		t.Fatalf("free %d, withdrawn %d", free, gone)
	}
	for range 3 {
		if n, e := rope.Free(a, x); n != 0 || e != api.ErrStale {
			t.Fatalf("Free once more: %d, %d", n, e)
		}
	}
	y, e := rope.New(a, "abcdefghijklmnopq")
	if y.At != h(6, 2) || e != api.OK {
		t.Fatalf("New: %s, %d", name(y.At), e)
	}
	if n, e := rope.Free(a, y); n != 3 || e != api.OK {
		t.Fatalf("Free: %d, %d", n, e)
	}
	if free, gone := a.Slots(); !slices.Equal(free, []int{2, 1, 0, 3, 7, 8}) || !slices.Equal(gone, []int{4, 5, 6}) {
		t.Fatalf("free %d, withdrawn %d", free, gone)
	}
	if s := a.Stats(); s != (api.Stats{Slots: 9, Free: 6, Withdrawn: 3, Allocs: 11, Frees: 11, Stale: 3}) {
		t.Fatalf("Stats: %+v", s)
	}
}

// P16.4: ropes that share nodes: what is freed is lost to the other one.
func TestFreeShared(t *testing.T) {
	w := start(t, 40, 2)
	x := w.written(built(w.text(150)).tree())
	p, _ := plan.Replace(w.a, x.keeps(), 70, 10, "0123456789abcdefghijk")
	y := w.written(p)
	z := w.written(built(w.text(30)).tree())
	w.reads(x.root())
	w.reads(y.root())
	if e := w.frees(x.root()); e != api.OK {
		t.Fatalf("Free: %d", e)
	}
	if e := w.reads(y.root()); e != api.ErrStale {
		t.Fatalf("Check of what lost nodes: %d", e)
	}
	if e := w.frees(y.root()); e != api.ErrStale {
		t.Fatalf("Free of what lost nodes: %d", e)
	}
	if e := w.reads(z.root()); e != api.OK {
		t.Fatalf("Check of another rope: %d", e)
	}
	if e := w.frees(z.root()); e != api.OK {
		t.Fatalf("Free of another rope: %d", e)
	}
	if e := w.frees(api.Root{}); e != api.OK {
		t.Fatalf("Free of the zero Root: %d", e)
	}
	w.ends()
}

// P16.4 and P16.9: slots are withdrawn when a rope is freed, until none is left.
func TestWithdrawn(t *testing.T) {
	for gens := uint64(1); gens <= 4; gens++ {
		w := start(t, 12, gens)
		for {
			f, e := w.makes(w.text(60))
			if e == api.ErrFull {
				break
			}
			w.reads(f.root())
			w.frees(f.root())
			w.frees(f.root())
		}
		// There are 5 nodes, in the same slots until these are withdrawn, and 2 slots are left in the end.
		if s := w.a.Stats(); s.Live != 0 || s.Allocs != 10*int(gens) || s.Withdrawn != 10 || s.Free != 2 {
			t.Fatalf("%d generations: %+v", gens, s)
		}
		w.ends()
	}
}

// P16.5 and P16.6: plans of all sorts, by pens that are stepped to their ends and behind them.
func TestPen(t *testing.T) {
	w := mixed(t)
	for _, x := range w.ordinary() {
		p := w.pen(x)
		if n := len(p.todo); n != plan.New(x) {
			t.Fatalf("a pen for %s has %d nodes to write", show(x), n)
		}
		f := p.finishes()
		for range 3 {
			if e := p.steps(); e != api.OK {
				t.Fatalf("Step of a pen that is done: %d", e)
			}
		}
		w.reads(f.root())
	}
	w.ends()
}

// P16.5: pens that are done at once, also if no slot is free.
func TestPenAtOnce(t *testing.T) {
	w := start(t, 3, 1)
	f := w.inner(w.leaf(8), w.leaf(9))
	for _, x := range []*full{nil, f, f.kids[0], f.kids[1]} {
		p := w.pen(x.keeps())
		if r, e := p.p.Root(); r != x.root() || e != api.OK {
			t.Fatalf("Root: %v, %d", r, e)
		}
		if at, done, e := p.p.Step(); at != 0 || !done || e != api.OK {
			t.Fatalf("Step: %d, %v, %d", at, done, e)
		}
		p.steps()
	}
	p := w.pen(api.Tree{Kids: []api.Tree{}})
	p.steps()
	if _, e := w.begins(leafOf("abc")); e != api.ErrFull {
		t.Fatalf("Begin: %d", e)
	}
	w.ends()
}

// P16.6: no slot is free any more when a pen is stepped; it is stepped again when there is one.
func TestPenFull(t *testing.T) {
	for stop := range 8 {
		w := start(t, 8, 9)
		p := w.pen(built(w.text(70)).tree())
		for range stop {
			p.steps()
		}
		var filled []*full
		for len(w.stack) > 0 {
			filled = append(filled, w.leaf(3))
		}
		for len(p.todo) > 0 {
			for range 3 {
				at, done, e := p.p.Step()
				if at != 0 || done || e != api.ErrFull {
					t.Fatalf("Step: %s, %v, %d", name(at), done, e)
				}
				if e := p.steps(); e != api.ErrFull {
					t.Fatalf("Step: %d", e)
				}
			}
			w.loses(filled[0])
			filled = filled[1:]
			if e := p.steps(); e != api.OK {
				t.Fatalf("Step: %d", e)
			}
		}
		w.reads(p.top.root())
		w.ends()
	}
}

// P16.6: a child of the next node is not live any more: ErrStale, which is not counted, again and again, and before ErrFull.
func TestPenStale(t *testing.T) {
	for kind := range 4 {
		w := start(t, 9, 3)
		x := w.inner(w.leaf(8), w.leaf(9))
		p := w.pen(innerOf(2, x.keeps(), innerOf(1, leafOf("abcdefgh"), x.kids[1].keeps(), leafOf("ijklmnop")), x.keeps()))
		lost := x
		switch kind {
		case 0:
			w.loses(x)
		case 1:
			lost = x.kids[1]
			w.loses(lost)
		case 2:
			p.steps()
			lost = w.fulls[w.at[len(w.at)-1]]
			w.loses(lost)
		case 3:
			w.loses(x)
			for len(w.stack) > 3 {
				w.leaf(3)
			}
		}
		written := 0
		for range 9 {
			if e := p.steps(); e == api.OK {
				written++
			} else if e != api.ErrStale {
				t.Fatalf("kind %d: Step: %d", kind, e)
			}
		}
		if left := map[int]int{0: 1, 1: 2, 2: 2, 3: 1}[kind]; len(p.todo) != left {
			t.Fatalf("kind %d: %d nodes are left, and %d were written; want %d", kind, len(p.todo), written, left)
		}
		if w.a.Stats().Stale != 0 {
			t.Fatalf("kind %d: %+v", kind, w.a.Stats())
		}
		for len(w.stack) > 0 {
			w.leaf(3)
		}
		if e := p.steps(); e != api.ErrStale {
			t.Fatalf("kind %d: Step with no free slot: %d", kind, e)
		}
		w.ends()
	}
}

// P16.6: what a pen is to write is not what a kept node was, if its slot has another node now, even the same one.
func TestPenReused(t *testing.T) {
	w := start(t, 6, 3)
	f := w.leaf(8)
	p := w.pen(innerOf(1, f.keeps(), leafOf("abcdefgh")))
	p.steps()
	w.loses(f)
	if g := w.written(leafOf(f.text)); g.at%65536 != f.at%65536 {
		t.Fatalf("another slot: %s", name(g.at))
	}
	for range 3 {
		if e := p.steps(); e != api.ErrStale {
			t.Fatalf("Step: %d", e)
		}
	}
	w.ends()
}

// P16.6: two pens that take turns.
func TestPensTurns(t *testing.T) {
	for seed := range 20 {
		r := rand.New(rand.NewSource(int64(seed)))
		w := mixed(t)
		x, y := w.pen(w.random(r, 4)), w.pen(w.random(r, 3))
		for turn := 0; len(x.todo)+len(y.todo) > 0; turn++ {
			p := []*pen{x, y}[turn%2]
			if seed > 4 {
				p = []*pen{x, y}[r.Intn(2)]
			}
			if e := p.steps(); e != api.OK {
				t.Fatalf("Step: %d", e)
			}
			x.roots()
			y.roots()
		}
		w.reads(x.top.root())
		w.reads(y.top.root())
		w.ends()
	}
}

// P16.6: a pen beside other writes and frees.
func TestPenBeside(t *testing.T) {
	for seed := range 20 {
		r := rand.New(rand.NewSource(int64(seed)))
		w := mixed(t)
		p := w.pen(built(w.text(400)).tree())
		var beside []*full
		for len(p.todo) > 0 {
			switch r.Intn(4) {
			case 0:
				f, e := w.makes(w.text(r.Intn(40)))
				if e != api.OK {
					t.Fatalf("New: %d", e)
				}
				beside = append(beside, f)
			case 1:
				if len(beside) > 0 {
					w.frees(beside[0].root())
					beside = beside[1:]
				}
			case 2:
				w.written(w.random(r, 2))
			default:
				if e := p.steps(); e != api.OK {
					t.Fatalf("Step: %d", e)
				}
			}
			p.roots()
		}
		w.reads(p.top.root())
		w.ends()
	}
}
