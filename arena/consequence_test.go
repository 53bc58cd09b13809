package arena_test

import (
	"math/rand"
	"slices"
	"testing"

	"quarto/api"
	"quarto/arena"
)

// act is one call of a sequence: Alloc of a node, or Get or Free of a handle.
type act struct {
	kind byte // a, g or f
	x    api.Node
	h    api.Handle
}

// do makes the call.
func (r *run) do(c act) {
	r.t.Helper()
	switch c.kind {
	case 'a':
		r.quickAlloc(c.x)
	case 'g':
		r.quickGet(c.h)
	default:
		r.quickFree(c.h)
	}
}

// grow makes all sequences of at most that many of the calls, each in a new arena, and checks each arena at the end.
func grow(t *testing.T, slots int, gens uint64, choices []act, length int) {
	t.Helper()
	var next func(calls []act)
	next = func(calls []act) {
		r := start(t, slots, gens)
		for _, c := range calls {
			r.do(c)
		}
		r.check()
		if len(calls) < length {
			for _, c := range choices {
				next(append(slices.Clip(calls), c))
			}
		}
	}
	next(nil)
}

// P13.2 to P13.8: all short sequences of calls, those among them that return errors.
func TestShort(t *testing.T) {
	for _, x := range []struct {
		slots  int
		gens   uint64
		length int
	}{{1, 1, 5}, {1, 2, 4}, {2, 1, 4}, {2, 2, 3}, {3, 1, 3}} {
		choices := []act{{kind: 'a', x: leaf("12345678")}, {kind: 'a', x: leaf("a")}, {kind: 'a', x: inner(1, child(made(0, 1), 8), child(made(0, 1), 8))}, {kind: 'a', x: inner(1, child(made(1, 1), 8), child(made(0, 2), 8))}, {kind: 'f', h: 0}}
		for slot := range x.slots {
			for gen := uint64(1); gen <= x.gens; gen++ {
				choices = append(choices, act{kind: 'g', h: made(slot, gen)}, act{kind: 'f', h: made(slot, gen)})
			}
		}
		grow(t, x.slots, x.gens, choices, x.length)
	}
}

// P13.8: all ways to write and free a leaf, a node above it, and one above that, in an arena that they fit in.
func TestShortTrees(t *testing.T) {
	choices := []act{{kind: 'a', x: leaf("12345678")}}
	for slot := range 3 {
		h := made(slot, 1)
		choices = append(choices, act{kind: 'a', x: inner(1, child(h, 8), child(h, 8))}, act{kind: 'a', x: inner(2, child(h, 16), child(h, 16))}, act{kind: 'f', h: h})
	}
	grow(t, 3, 2, choices, 4)
}

// anyText is a text of a leaf, seldom a short one, that has line feeds and bytes of longer runes or not.
func anyText(random *rand.Rand) string {
	n := 8 + random.Intn(9)
	if random.Intn(8) == 0 {
		n = 1 + random.Intn(7)
	}
	text := make([]byte, n)
	for i := range text {
		text[i] = "abcdefgh\n\xc3\xa4\x80"[random.Intn(12)]
	}
	return string(text)
}

// anyInner is an inner node over live nodes of one height, and a leaf if there are none.
func (r *run) anyInner(random *rand.Rand) api.Node {
	live := r.live()
	if len(live) == 0 {
		return leaf(anyText(random))
	}
	height := r.nodes[live[random.Intn(len(live))]].Height
	live = slices.DeleteFunc(live, func(h api.Handle) bool { return r.nodes[h].Height != height })
	x := inner(height + 1)
	for range 2 + random.Intn(3) {
		x.Kids = append(x.Kids, r.kid(live[random.Intn(len(live))]))
	}
	return x
}

// spoiled makes something wrong with a child, or with the height.
func (r *run) spoiled(random *rand.Rand, x api.Node) api.Node {
	if len(x.Kids) == 0 || random.Intn(6) == 0 {
		x.Height += random.Intn(3) - 1
		return x
	}
	k := &x.Kids[random.Intn(len(x.Kids))]
	switch random.Intn(5) {
	case 0:
		k.At = r.anyStale(random)
	case 1:
		k.M.Bytes += random.Intn(3) - 1
	case 2:
		k.M.Runes += random.Intn(3) - 1
	case 3:
		k.M.Lines += random.Intn(3) - 1
	default:
		if live := r.live(); len(live) > 0 {
			k.At = live[random.Intn(len(live))]
		}
	}
	return x
}

// anyNode is a node to write, which may be refused.
func (r *run) anyNode(random *rand.Rand) api.Node {
	x := leaf(anyText(random))
	if random.Intn(2) == 0 {
		x = r.anyInner(random)
	}
	for random.Intn(4) == 0 {
		x = r.spoiled(random, x)
	}
	return x
}

// P13.2 to P13.7: long sequences of calls, with more nodes written or fewer, against the model after each call. Nodes are freed in any order.
func TestLong(t *testing.T) {
	random := rand.New(rand.NewSource(13))
	var all api.Stats
	for i := range 60 {
		r := start(t, 1+random.Intn(24), 1+uint64(random.Intn(1+i%9)))
		allocs := 3 + i%5 // of 10
		for range 300 {
			live := r.live()
			switch {
			case random.Intn(10) == 0:
				r.get(r.anyStale(random))
			case random.Intn(10) == 0:
				r.free(r.anyStale(random))
			case random.Intn(10) < allocs || len(live) == 0:
				r.alloc(r.anyNode(random))
			case random.Intn(4) == 0:
				r.get(live[random.Intn(len(live))])
			default:
				r.free(live[random.Intn(len(live))])
			}
		}
		s := r.a.Stats()
		all.Allocs, all.Frees, all.Withdrawn, all.Stale = all.Allocs+s.Allocs, all.Frees+s.Frees, all.Withdrawn+s.Withdrawn, all.Stale+s.Stale
	}
	if all.Allocs < 1000 || all.Frees < 1000 || all.Withdrawn < 200 || all.Stale < 1000 {
		t.Errorf("too few calls did something: %+v", all)
	}
}

// P13.8: long sequences of calls in which no node is freed before those that have it as a child; each check goes through all children then.
func TestLongOrderly(t *testing.T) {
	random := rand.New(rand.NewSource(138))
	high, kids := 0, 0
	for i := range 40 {
		r := start(t, 8+random.Intn(25), 2+uint64(random.Intn(60)))
		allocs := 4 + i%4 // of 10
		for range 300 {
			free := slices.DeleteFunc(r.live(), r.hasParent)
			switch {
			case random.Intn(20) == 0:
				r.free(r.anyStale(random))
			case random.Intn(10) < allocs || len(free) == 0:
				h := r.alloc(r.anyNode(random))
				high = max(high, r.nodes[h].Height)
			default:
				r.free(free[random.Intn(len(free))])
			}
			if !r.orderly {
				t.Fatalf("a child was freed")
			}
			for _, x := range r.nodes {
				kids += len(x.Kids)
			}
		}
	}
	if high < 5 || kids < 10000 {
		t.Errorf("the trees are too low or too few: height %d, %d children", high, kids)
	}
}

// P13.2 to P13.6: an arena of all slots that an arena can have.
func TestMost(t *testing.T) {
	random := rand.New(rand.NewSource(12))
	r := start(t, most, 2)
	var leaves, order []api.Handle
	for range most / 2 {
		leaves = append(leaves, r.quickAlloc(leaf("12345678")))
	}
	for i := range most / 2 {
		order = append(order, r.quickAlloc(inner(1, child(leaves[i], 8), child(leaves[random.Intn(len(leaves))], 8))))
	}
	r.allocs(leaf("a"), api.ErrFull)
	random.Shuffle(len(order), func(i, j int) { order[i], order[j] = order[j], order[i] })
	for _, h := range order[:most/4] {
		r.quickFree(h)
	}
	r.check()
	for range most / 8 {
		r.quickFree(r.quickAlloc(leaf("b")))
		r.quickAlloc(leaf("c"))
	}
	r.free(made(most, 1))
	for _, h := range slices.Concat(r.live(), leaves, order) {
		r.quickGet(h)
		r.quickFree(h)
	}
	r.check()
	free, withdrawn := r.a.Slots()
	l := slices.Concat(free, withdrawn)
	slices.Sort(l)
	if len(l) != most || l[0] != 0 || l[most-1] != most-1 || len(withdrawn) == 0 {
		t.Errorf("%d slots, %d of them withdrawn", len(l), len(withdrawn))
	}
}

// P13.3, P13.6: many generations of one slot: what was written last is what is read, and the handles before it are stale.
func TestOften(t *testing.T) {
	const gens = 70000
	a, e := arena.New(2, gens)
	if e != api.OK {
		t.Fatalf("New: %d", e)
	}
	for gen := uint64(1); gen <= gens; gen++ {
		text := string([]byte{byte(gen), byte(gen >> 8), byte(gen >> 16)})
		h, e := a.Alloc(leaf(text))
		if h != made(0, gen) || e != api.OK || !a.Live(h) {
			t.Fatalf("Alloc: %d, %d; want %d", h, e, made(0, gen))
		}
		if x, e := a.Get(h); x.Text != text || e != api.OK {
			t.Fatalf("Get at generation %d: %s, %d", gen, show(x), e)
		}
		for _, past := range []api.Handle{made(0, gen-1), made(0, 1), made(0, gen/2), made(0, gen+1)} {
			if past == h {
				continue
			}
			if x, e := a.Get(past); !same(x, api.Node{}) || e != api.ErrStale || a.Free(past) != api.ErrStale {
				t.Fatalf("at generation %d, Get(%d): %s, %d", gen, past, show(x), e)
			}
		}
		if e := a.Free(h); e != api.OK || a.Live(h) {
			t.Fatalf("Free at generation %d: %d", gen, e)
		}
	}
	want := api.Stats{Slots: 2, Free: 1, Withdrawn: 1, Allocs: gens, Frees: gens, Stale: 2 * (4*gens - 1)}
	if s := a.Stats(); s != want {
		t.Errorf("Stats: %+v; want %+v", s, want)
	}
}

// P13.7: an arena is used up after as many nodes as it has slots times generations, in whatever order they are freed, and not before.
func TestUsedUp(t *testing.T) {
	random := rand.New(rand.NewSource(137))
	for _, slots := range []int{1, 2, 3, 10} {
		for _, gens := range []uint64{1, 2, 5, 20} {
			r := start(t, slots, gens)
			for {
				live := r.live()
				h := r.quickAlloc(leaf("a"))
				if h == 0 && len(live) == 0 {
					break
				}
				if h == 0 || random.Intn(2) == 0 {
					live = r.live()
					r.free(live[random.Intn(len(live))])
				}
			}
			r.check()
			if s := r.a.Stats(); s != (api.Stats{Slots: slots, Withdrawn: slots, Allocs: slots * int(gens), Frees: slots * int(gens)}) {
				t.Fatalf("New(%d, %d), used up: %+v", slots, gens, s)
			}
		}
	}
}

// R3: writing over what Alloc was given, or over what Get returned, changes no node and no other result.
func TestMemoryOfNodes(t *testing.T) {
	a, e := arena.New(3, 2)
	if e != api.OK {
		t.Fatalf("New: %d", e)
	}
	h, _ := a.Alloc(leaf("12345678"))
	kids := []api.Kid{child(h, 8), child(h, 8), child(h, 8), child(h, 8), {At: 5}}
	want := inner(1, slices.Clone(kids[:3])...)
	p, e := a.Alloc(inner(1, kids[:3]...))
	q, f := a.Alloc(inner(1, kids[:3]...))
	if e != api.OK || f != api.OK {
		t.Fatalf("Alloc: %d, %d", e, f)
	}
	x, _ := a.Get(p)
	spoilKids(kids)
	y, _ := a.Get(p)
	z, _ := a.Get(q)
	if !same(x, want) || !same(y, want) || !same(z, want) {
		t.Fatalf("writing over the children that Alloc was given: %s, %s, %s", show(x), show(y), show(z))
	}
	spoilKids(x.Kids)
	_ = append(x.Kids, child(h, 9))
	again, _ := a.Get(p)
	if !same(y, want) || !same(z, want) || !same(again, want) {
		t.Fatalf("writing over the children that Get returned: %s, %s, %s", show(y), show(z), show(again))
	}
	a.Free(p)
	a.Alloc(leaf("again"))
	if !same(y, want) || !same(again, want) {
		t.Fatalf("freeing a node changed what was read before: %s, %s", show(y), show(again))
	}
	// A leaf has no children, also where it was given a part of a longer list.
	a.Free(q)
	long := []api.Kid{{At: 1}, {At: 2}}
	q, _ = a.Alloc(api.Node{Text: "leaf", Kids: long[:0]})
	x, _ = a.Get(q)
	_ = append(x.Kids, child(h, 9))
	if len(x.Kids) != 0 || long[0].At != 1 || long[1].At != 2 {
		t.Fatalf("a leaf: %s, %v", show(x), long)
	}
}

// R3: the lists that are returned are new memory: writing over them changes no arena, and no other result.
func TestMemoryOfLists(t *testing.T) {
	random := rand.New(rand.NewSource(133))
	r := start(t, 9, 2)
	for range 200 {
		live := r.a.Handles()
		free, gone := r.a.Slots()
		wantLive, wantFree, wantGone := slices.Clone(live), slices.Clone(free), slices.Clone(gone)
		is := func() {
			t.Helper()
			if !slices.Equal(live, wantLive) || !slices.Equal(free, wantFree) || !slices.Equal(gone, wantGone) {
				r.fail("results became %v, %v, %v", live, free, gone)
			}
		}
		r.check() // which writes over all lists that it is given
		is()
		if len(live) > 0 && random.Intn(2) == 0 {
			r.free(live[random.Intn(len(live))])
		} else {
			r.alloc(leaf("a"))
		}
		// Nor do calls change what was returned before them.
		is()
		spoil(free)
		r.check()
		wantFree = slices.Clone(free)
		is()
		spoil(gone)
		r.check()
		wantGone = slices.Clone(gone)
		is()
	}
}

// R5, R6: arenas know nothing of each other, and the same calls have the same results.
func TestApart(t *testing.T) {
	random := rand.New(rand.NewSource(136))
	first, second, idle := start(t, 8, 3), start(t, 8, 3), start(t, 8, 3)
	both := func(c act) {
		first.do(c)
		idle.check()
		second.check()
		second.do(c)
		first.check()
	}
	idle.alloc(leaf("idle"))
	for range 300 {
		live := first.live()
		switch {
		case len(live) > 0 && random.Intn(3) == 0:
			both(act{kind: 'f', h: live[random.Intn(len(live))]})
		case random.Intn(5) == 0:
			both(act{kind: 'g', h: first.anyStale(random)})
		default:
			both(act{kind: 'a', x: first.anyNode(random)})
		}
	}
}
