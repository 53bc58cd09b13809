package arena_test

import (
	"fmt"
	"math"
	"slices"
	"testing"

	"quarto/api"
	"quarto/arena"
	"quarto/handle"
	"quarto/node"
)

// The chapter's examples, in their order.
func TestExamples(t *testing.T) {
	small, e := arena.New(2, 1)
	if e != api.OK {
		t.Fatalf("New(2, 1): %d", e)
	}
	is := func(call string, got, want any) {
		t.Helper()
		if fmt.Sprint(got) != fmt.Sprint(want) {
			t.Errorf("%s: %v; want %v", call, got, want)
		}
	}
	text := func(h api.Handle, e api.Errno) string {
		if e != api.OK {
			return fmt.Sprint(h, " error ", int(e))
		}
		s, _ := handle.Text(h)
		return s
	}
	a, b := leaf("a"), leaf("b")
	is("Alloc(a)", text(small.Alloc(a)), "0.1")
	is("Alloc(b)", text(small.Alloc(b)), "1.1")
	is("Alloc(a)", text(small.Alloc(a)), "0 error 6")
	x, e := small.Get(made(0, 1))
	is("Get(0.1)", fmt.Sprint(same(x, a), int(e)), "true 0")
	x, e = small.Get(made(1, 2))
	is("Get(1.2)", fmt.Sprint(same(x, api.Node{}), int(e)), "true 10")
	is("Free(0.1)", int(small.Free(made(0, 1))), 0)
	x, e = small.Get(made(0, 1))
	is("Get(0.1)", fmt.Sprint(same(x, api.Node{}), int(e)), "true 10")
	is("Alloc(a)", text(small.Alloc(a)), "0 error 6")
	free, withdrawn := small.Slots()
	is("Slots", fmt.Sprint(free, withdrawn), "[] [0]")
	is("Alloc of the zero Node", text(small.Alloc(api.Node{})), "0 error 23")
	is("Handles", small.Handles(), []api.Handle{made(1, 1)})
	is("Stats", small.Stats(), api.Stats{Slots: 2, Free: 0, Live: 1, Withdrawn: 1, Allocs: 2, Frees: 1, Stale: 2})
}

// P13.1: in a new arena all slots are free, slot 0 is taken first, and nothing was counted.
func TestNew(t *testing.T) {
	for _, slots := range []int{1, 2, 3, 77, 255, 256, 257, most - 1, most} {
		for _, gens := range []uint64{1, 2, 3, 65535, 65536, math.MaxInt32, 1 << 31, lastGen - 1, lastGen} {
			r := start(t, slots, gens) // which checks it
			if s := r.a.Stats(); s != (api.Stats{Slots: slots, Free: slots}) {
				t.Fatalf("New(%d, %d): %+v", slots, gens, s)
			}
			for slot := range min(slots, 5) {
				if h := r.quickAlloc(leaf("a")); h != made(slot, 1) {
					t.Fatalf("New(%d, %d): slot %d is taken as %d", slots, gens, slot, h)
				}
			}
			r.check()
		}
	}
}

// P13.1: slots and generations that no arena has, one of the two, and both.
func TestNewErrors(t *testing.T) {
	none := func(slots int, gens uint64) {
		t.Helper()
		if a, e := arena.New(slots, gens); a != nil || e != api.ErrRange {
			t.Fatalf("New(%d, %d): %v, %d; want ErrRange", slots, gens, a, e)
		}
	}
	for _, slots := range noLengths() {
		for _, gens := range append(noLimits(), 1, 2, lastGen-1, lastGen) {
			none(slots, gens)
		}
	}
	for _, gens := range noLimits() {
		for _, slots := range []int{1, 2, most - 1, most} {
			none(slots, gens)
		}
	}
	none(0, 1)
	none(1, 0)
	none(0, 0)
	none(api.MaxSlots+1, 1)
	none(1, api.MaxGen+1)
	none(api.MaxSlots+1, api.MaxGen+1)
	none(math.MinInt, math.MaxUint64)
	none(math.MaxInt, math.MaxUint64)
}

// P13.2: leaves of all lengths, and with all bytes.
func TestAllocLeaves(t *testing.T) {
	l := texts()
	r := start(t, len(l)+257, 1)
	for i, text := range l {
		if h := r.allocs(leaf(text), api.OK); h != made(i, 1) {
			t.Fatalf("the leaf %q is at %d", text, h)
		}
	}
	for b := range 256 {
		r.quickAlloc(leaf(string([]byte{byte(b), 'x', byte(b)})))
	}
	if h := r.allocs(api.Node{Text: "ab", Kids: []api.Kid{}}, api.OK); h != made(len(l)+256, 1) {
		t.Fatalf("the leaf with an empty list of children is at %d", h)
	}
	r.allocs(leaf("a"), api.ErrFull)
}

// P13.2: a node that is not valid has the error of node.Check, with free slots or without, and whatever its children are.
func TestAllocInvalid(t *testing.T) {
	free, full, gone := start(t, 3, 2), start(t, 1, 1), start(t, 1, 1)
	full.alloc(leaf("12345678"))
	gone.free(gone.alloc(leaf("12345678")))
	for _, i := range invalids() {
		for _, r := range []*run{free, full, gone} {
			r.allocs(i.x, i.e)
		}
	}
	// Children that are live, and those of wrong heights and measures, make no difference.
	h := free.alloc(leaf("12345678"))
	for _, r := range []*run{free, full} {
		r.allocs(inner(1, child(h, 8)), api.ErrShape)
		r.allocs(inner(2, child(h, 8), child(h, 8)), api.ErrShape)
		r.allocs(inner(1, child(h, 8), child(h, 8), child(h, 8), child(h, 8), child(h, 8)), api.ErrShape)
		r.allocs(inner(7, child(h, 65536), child(h, 65536)), api.ErrLong)
		r.allocs(inner(7, child(h+65536, 65536), child(h, 65536)), api.ErrLong)
		r.allocs(inner(1, child(h+65536, 8), child(h, 7)), api.ErrShape)
	}
}

// P13.2: inner nodes with 2, 3 and 4 children, which have different measures, in different orders.
func TestAllocInner(t *testing.T) {
	r := start(t, 40, 2)
	var l []api.Handle
	for _, text := range []string{"12345678", "a\nb\nc\nd\ne", "\xe2\x82\xac\xe2\x82\xac\xe2\x82\xac\n", "0123456789abcdef", "\x80\x80\x80\x80\x80\x80\x80\x80"} {
		l = append(l, r.alloc(leaf(text)))
	}
	kids := func(indices ...int) (k []api.Kid) {
		for _, i := range indices {
			k = append(k, r.kid(l[i]))
		}
		return k
	}
	var inners []api.Handle
	for _, indices := range [][]int{{0, 1}, {1, 0}, {4, 2, 3}, {3, 2, 1, 0}, {4, 3, 2, 1}} {
		inners = append(inners, r.allocs(inner(1, kids(indices...)...), api.OK))
	}
	top := r.allocs(inner(2, r.kid(inners[0]), r.kid(inners[2]), r.kid(inners[4])), api.OK)
	if m := measured(r.nodes[top]); m != (api.Measure{Bytes: 17 + 34 + 43, Runes: 17 + 20 + 29, Lines: 4 + 1 + 5}) {
		t.Fatalf("the measure of the node of height 2: %+v", m)
	}
	for _, h := range append(l, append(inners, top)...) {
		r.get(h)
	}
}

// P13.2: one node as a child several times, up to the greatest height that a node can have.
func TestAllocSameChild(t *testing.T) {
	for n := 2; n <= 4; n++ {
		r := start(t, 20, 2)
		h := r.alloc(leaf("12345678"))
		height := 1
		for ; measured(r.nodes[h]).Bytes*n <= 65536; height++ {
			h = r.allocs(inner(height, slices.Repeat([]api.Kid{r.kid(h)}, n)...), api.OK)
			r.get(h)
		}
		r.allocs(inner(height, slices.Repeat([]api.Kid{r.kid(h)}, n)...), api.ErrLong)
		if want := []int{14, 9, 7}[n-2]; height != want {
			t.Fatalf("%d children each: no node of height %d; want %d", n, height, want)
		}
	}
	r := start(t, 4, 2)
	a, b := r.alloc(leaf("12345678")), r.alloc(leaf("abcdefgh"))
	r.allocs(inner(1, child(a, 8), child(b, 8), child(a, 8), child(a, 8)), api.OK)
}

// P13.2: what is wrong with one child, at each index among right ones: it was never live, was freed, was freed and its slot taken again, or has another height or measure.
func TestAllocChild(t *testing.T) {
	for _, full := range []bool{false, true} {
		r := start(t, 9, 3)
		a, b, freed, again := r.alloc(leaf("12345678")), r.alloc(leaf("a\nb\xc3\xa4cdefghijk")), r.alloc(leaf("abcdefgh")), r.alloc(leaf("ABCDEFGH"))
		r.free(again)
		if h := r.alloc(leaf("ABCDEFGH")); h != again+65536 {
			t.Fatalf("the slot was taken again as %d", h)
		}
		r.free(freed)
		low := r.alloc(leaf("0123456789abcdef"))
		high := r.alloc(inner(1, r.kid(a), r.kid(a)))
		for full && len(r.stack) > 0 {
			r.alloc(leaf("x"))
		}
		if full {
			r.allocs(inner(1, r.kid(a), r.kid(b)), api.ErrFull)
		}
		m := r.kid(b).M
		for _, x := range []struct {
			height int
			right  api.Handle
			wrong  api.Kid
			e      api.Errno
		}{
			{1, a, child(made(8, 2), 8), api.ErrStale}, // of a generation to come
			{1, a, child(made(9, 1), 8), api.ErrStale}, // of a slot that does not exist
			{1, a, child(made(most-1, lastGen), 8), api.ErrStale},
			{1, a, child(freed, 8), api.ErrStale},
			{1, a, child(again, 8), api.ErrStale},
			{1, a, child(again+2*65536, 8), api.ErrStale},
			{1, a, child(high, 16), api.ErrShape},   // too high
			{2, high, child(low, 16), api.ErrShape}, // too low
			{1, a, child(a, 9), api.ErrShape},
			{1, a, api.Kid{At: b, M: api.Measure{Bytes: m.Bytes - 1, Runes: m.Runes, Lines: m.Lines}}, api.ErrShape},
			{1, a, api.Kid{At: b, M: api.Measure{Bytes: m.Bytes + 1, Runes: m.Runes, Lines: m.Lines}}, api.ErrShape},
			{1, a, api.Kid{At: b, M: api.Measure{Bytes: m.Bytes, Runes: m.Runes - 1, Lines: m.Lines}}, api.ErrShape},
			{1, a, api.Kid{At: b, M: api.Measure{Bytes: m.Bytes, Runes: m.Runes + 1, Lines: m.Lines}}, api.ErrShape},
			{1, a, api.Kid{At: b, M: api.Measure{Bytes: m.Bytes, Runes: m.Runes, Lines: m.Lines - 1}}, api.ErrShape},
			{1, a, api.Kid{At: b, M: api.Measure{Bytes: m.Bytes, Runes: m.Runes, Lines: m.Lines + 1}}, api.ErrShape},
			{1, a, api.Kid{At: b, M: api.Measure{Bytes: m.Bytes, Runes: m.Lines, Lines: m.Lines}}, api.ErrShape},
			{1, a, api.Kid{At: b, M: r.kid(a).M}, api.ErrShape}, // the measure of another node
			{1, a, child(low, 8), api.ErrShape},
			{2, high, child(high, 17), api.ErrShape},
			{2, high, child(high, 32), api.ErrShape},
		} {
			for n := 2; n <= 4; n++ {
				for i := range n {
					kids := slices.Repeat([]api.Kid{r.kid(x.right)}, n)
					kids[i] = x.wrong
					r.allocs(inner(x.height, kids...), x.e)
				}
			}
		}
	}
}

// P13.2, R2: of two children that are wrong in different ways, the first one is told, and of one that is not live whatever else is wrong with it, that it is not live.
func TestAllocFirstChild(t *testing.T) {
	for _, full := range []bool{false, true} {
		r := start(t, 5, 2)
		a, freed := r.alloc(leaf("12345678")), r.alloc(leaf("abcdefgh"))
		high := r.alloc(inner(1, r.kid(a), r.kid(a)))
		r.free(freed)
		for full && len(r.stack) > 0 {
			r.alloc(leaf("x"))
		}
		right := r.kid(a)
		for _, stale := range []api.Kid{child(freed, 8), child(freed, 9), child(made(4, 2), 8), child(made(77, 1), 16)} {
			for _, shape := range []api.Kid{child(a, 9), child(high, 16), child(high, 8), {At: a, M: api.Measure{Bytes: 8, Runes: 7}}} {
				for _, kids := range [][]api.Kid{{stale, shape}, {right, stale, shape}, {stale, right, shape}, {stale, shape, right, shape}, {right, right, stale, shape}, {stale, right, right, shape}} {
					r.allocs(inner(1, kids...), api.ErrStale)
				}
				for _, kids := range [][]api.Kid{{shape, stale}, {right, shape, stale}, {shape, right, stale}, {shape, stale, right, stale}, {right, right, shape, stale}, {shape, right, right, stale}} {
					r.allocs(inner(1, kids...), api.ErrShape)
				}
			}
		}
		if s := r.a.Stats(); s.Stale != 0 {
			t.Fatalf("children were counted as stale accesses: %+v", s)
		}
	}
}

// P13.2: no slot is free, since all are taken, or withdrawn, or each is one of the two: a valid node is refused, however often, until a slot is free.
func TestAllocFull(t *testing.T) {
	for taken := range 5 {
		r := start(t, 4, 1)
		for range 4 {
			r.alloc(leaf("12345678"))
		}
		for slot := taken; slot < 4; slot++ {
			r.free(made(slot, 1))
		}
		for range 3 {
			r.allocs(leaf("a"), api.ErrFull)
			r.allocs(leaf(""), api.ErrShape)
			r.allocs(inner(1, child(made(3, 1), 8), child(made(4, 1), 8)), api.ErrStale)
			if taken > 0 {
				r.allocs(inner(1, child(made(0, 1), 8), child(made(taken-1, 1), 8)), api.ErrFull)
				r.allocs(inner(1, child(made(0, 1), 9), child(made(taken-1, 1), 8)), api.ErrShape)
			}
		}
		if h, e := r.a.Alloc(leaf("a")); h != 0 || e != api.ErrFull {
			t.Fatalf("%d taken slots, the others withdrawn: Alloc: %d, %d", taken, h, e)
		}
	}
	r := start(t, 2, 2)
	a, b := r.alloc(leaf("12345678")), r.alloc(leaf("abcdefgh"))
	r.allocs(inner(1, r.kid(a), r.kid(b)), api.ErrFull)
	r.free(b)
	r.allocs(inner(1, child(a, 8), child(b, 8)), api.ErrStale)
	r.allocs(inner(1, child(a, 8), child(a, 8)), api.OK)
}

// P13.3: whatever is not live is stale, for Get and for Free, which then change nothing but the count: in arenas with free, taken and withdrawn slots, at each moment.
func TestStale(t *testing.T) {
	r := start(t, 4, 2)
	stale := func() {
		t.Helper()
		for _, h := range r.stale() {
			r.get(h)
			r.free(h)
		}
	}
	stale()
	a, b := r.alloc(leaf("12345678")), r.alloc(leaf("abcdefgh"))
	r.get(a)
	r.get(b)
	stale()
	r.free(a)
	r.get(a)
	r.free(a) // what was freed
	stale()
	c := r.alloc(inner(1, child(b, 8), child(b, 8)))
	for _, h := range []api.Handle{
		a, made(0, 3), made(1, 2), // the generation before that of a taken slot, and generations to come
		made(2, 1), made(3, 1), made(3, 2), // free slots
		made(4, 1), made(most-1, 1), // slots that do not exist
		0, 1, 65535, made(16384, 1), c + 1<<48, c + 1<<63, c + 16384, greatest, // numbers that are no handles
	} {
		r.get(h)
		r.free(h)
	}
	stale()
	r.get(c)
	r.free(c)
	r.get(c) // of a slot that was withdrawn
	r.free(c)
	r.free(a)
	r.get(made(0, 3))
	stale()
	r.free(b)
	stale()
	if free, withdrawn := r.a.Slots(); !slices.Equal(free, []int{1, 2, 3}) || !slices.Equal(withdrawn, []int{0}) {
		t.Errorf("Slots: %v, %v", free, withdrawn)
	}
	if s := r.a.Stats(); s.Stale != r.stats.Stale || s.Stale < 100 || s.Allocs != 3 || s.Frees != 3 {
		t.Errorf("Stats: %+v", s)
	}
}

// P13.3: the slot that was freed last is taken first, whether others are free or not.
func TestFree(t *testing.T) {
	for n := 1; n <= 6; n++ {
		for taken := 1; taken <= n; taken++ {
			for slot := range taken {
				r := start(t, n, 2)
				for i := range taken {
					r.alloc(leaf("before"[i:]))
				}
				r.free(made(slot, 1))
				if free, _ := r.a.Slots(); free[0] != slot || len(free) != n-taken+1 {
					t.Fatalf("Free of slot %d, %d of %d being taken: free are %v", slot, taken, n, free)
				}
				if h := r.alloc(leaf("after")); h != made(slot, 2) {
					t.Fatalf("Free of slot %d, then Alloc: %d", slot, h)
				}
				r.get(made(slot, 1))
				r.get(made(slot, 2))
			}
		}
	}
}

// P13.3: a child of a live node may be freed; the node stays as it was, while its child is not live, also where another node has taken the slot.
func TestFreeChild(t *testing.T) {
	r := start(t, 5, 3)
	a, b := r.alloc(leaf("12345678")), r.alloc(leaf("abcdefghi"))
	x := inner(1, r.kid(a), r.kid(b))
	p := r.allocs(x, api.OK)
	q := r.allocs(inner(2, r.kid(p), r.kid(p)), api.OK)
	r.free(a)
	r.get(p)
	r.allocs(x, api.ErrStale)
	if h := r.alloc(leaf("87654321")); h != a+65536 {
		t.Fatalf("the slot of the child was taken as %d", h)
	}
	r.get(p)
	r.get(a)
	r.allocs(x, api.ErrStale)
	r.allocs(inner(1, child(a+65536, 8), child(b, 9)), api.OK)
	// A node whose own children are not live is a child like any other.
	r.allocs(inner(2, r.kid(p), r.kid(p), r.kid(p)), api.ErrFull)
	r.free(q)
	r.allocs(inner(2, r.kid(p), r.kid(p), r.kid(p)), api.OK)
	r.free(p)
	r.free(b)
}

// P13.3: a slot is withdrawn at its last generation, and not before it.
func TestLastGeneration(t *testing.T) {
	for _, gens := range []uint64{1, 2, 3, 10, 255, 256, 257} {
		r := start(t, 2, gens)
		for gen := uint64(1); gen <= gens; gen++ {
			h := r.alloc(leaf("a"))
			if h != made(0, gen) {
				t.Fatalf("%d generations: Alloc: %d; want generation %d", gens, h, gen)
			}
			r.free(h)
			if _, withdrawn := r.a.Slots(); (len(withdrawn) == 1) != (gen == gens) || r.a.Stats().Withdrawn != len(withdrawn) {
				t.Fatalf("%d generations: withdrawn after generation %d: %v", gens, gen, withdrawn)
			}
		}
		r.get(made(0, gens))
		r.get(made(0, gens+1))
		if h := r.alloc(leaf("a")); h != made(1, 1) {
			t.Fatalf("%d generations, and slot 0 is withdrawn: Alloc: %d", gens, h)
		}
	}
}

// P13.4, P13.5: arenas without free, without live, and without withdrawn slots, and arenas that have of each.
func TestQueries(t *testing.T) {
	const n = 6
	for withdrawn := range n + 1 {
		for live := range n - withdrawn + 1 {
			r := start(t, n, 1)
			for range withdrawn + live {
				r.alloc(leaf("a"))
			}
			for slot := withdrawn - 1; slot >= 0; slot-- { // so that they do not come in their order
				r.free(made(slot, 1))
			}
			free, gone := r.a.Slots()
			if len(free) != n-withdrawn-live || len(gone) != withdrawn || len(r.a.Handles()) != live {
				t.Fatalf("%d live, %d withdrawn: %v, %v, %v", live, withdrawn, free, gone, r.a.Handles())
			}
			want := api.Stats{Slots: n, Free: n - withdrawn - live, Live: live, Withdrawn: withdrawn, Allocs: withdrawn + live, Frees: withdrawn}
			if s := r.a.Stats(); s != want {
				t.Fatalf("%d live, %d withdrawn: %+v; want %+v", live, withdrawn, s, want)
			}
		}
	}
}

// P13.4: the order of handles and slots, where they are taken, freed and withdrawn in another one.
func TestQueriesOrder(t *testing.T) {
	r := start(t, 5, 2)
	var l []api.Handle
	for range 5 {
		l = append(l, r.alloc(leaf("a")))
	}
	for _, slot := range []int{3, 0, 4} {
		r.free(l[slot])
	}
	if free, _ := r.a.Slots(); !slices.Equal(free, []int{4, 0, 3}) {
		t.Fatalf("free: %v", free)
	}
	for range 3 {
		r.alloc(leaf("b"))
	}
	if live := r.a.Handles(); !slices.Equal(live, []api.Handle{made(0, 2), made(1, 1), made(2, 1), made(3, 2), made(4, 2)}) {
		t.Fatalf("Handles: %v", live)
	}
	for _, h := range []api.Handle{made(4, 2), made(1, 1), made(0, 2)} {
		r.free(h)
	}
	if free, withdrawn := r.a.Slots(); !slices.Equal(free, []int{1}) || !slices.Equal(withdrawn, []int{0, 4}) {
		t.Fatalf("Slots: %v, %v", free, withdrawn)
	}
}

// P13.5: what is counted, call by call.
func TestStats(t *testing.T) {
	r := start(t, 3, 2)
	is := func(free, live, withdrawn, allocs, frees, stale int) {
		t.Helper()
		want := api.Stats{Slots: 3, Free: free, Live: live, Withdrawn: withdrawn, Allocs: allocs, Frees: frees, Stale: stale}
		if s := r.a.Stats(); s != want {
			t.Fatalf("after %s: %+v; want %+v", r.last, s, want)
		}
	}
	is(3, 0, 0, 0, 0, 0)
	a := r.quickAlloc(leaf("12345678"))
	is(2, 1, 0, 1, 0, 0)
	r.quickAlloc(api.Node{})
	r.quickAlloc(inner(1, child(a, 8), child(a, 9)))
	r.quickAlloc(inner(1, child(a, 8), child(a+65536, 8)))
	is(2, 1, 0, 1, 0, 0)
	b := r.quickAlloc(inner(1, child(a, 8), child(a, 8)))
	c := r.quickAlloc(leaf("c"))
	is(0, 3, 0, 3, 0, 0)
	r.quickAlloc(leaf("d")) // ErrFull
	r.quickGet(a)
	r.quickGet(b)
	is(0, 3, 0, 3, 0, 0)
	r.quickGet(a + 65536)
	is(0, 3, 0, 3, 0, 1)
	r.quickFree(0)
	is(0, 3, 0, 3, 0, 2)
	r.quickFree(c)
	is(1, 2, 0, 3, 1, 2)
	r.quickFree(c)
	is(1, 2, 0, 3, 1, 3)
	r.quickFree(r.quickAlloc(leaf("e")))
	is(0, 2, 1, 4, 2, 3)
	r.a.Live(c)
	r.a.Live(0)
	r.a.Handles()
	r.a.Slots()
	r.a.Stats()
	is(0, 2, 1, 4, 2, 3)
	r.check()
}

// R5, R2: calls to no arena, with arguments for which they would have other errors too.
func TestNil(t *testing.T) {
	var a *arena.Arena
	l := []api.Node{leaf("a"), inner(1, child(65536, 8), child(65536, 8))}
	for _, i := range invalids() {
		l = append(l, i.x)
	}
	for _, x := range l {
		if h, e := a.Alloc(x); h != 0 || e != api.ErrNil {
			t.Errorf("Alloc(%s): %d, %d", show(x), h, e)
		}
	}
	for _, h := range append(strange(1), made(0, 1), made(0, lastGen)) {
		if x, e := a.Get(h); !same(x, api.Node{}) || e != api.ErrNil {
			t.Errorf("Get(%d): %s, %d", h, show(x), e)
		}
		if e := a.Free(h); e != api.ErrNil {
			t.Errorf("Free(%d): %d", h, e)
		}
		if a.Live(h) {
			t.Errorf("Live(%d): true", h)
		}
	}
	if live := a.Handles(); len(live) != 0 {
		t.Errorf("Handles: %v", live)
	}
	if free, withdrawn := a.Slots(); len(free)+len(withdrawn) != 0 {
		t.Errorf("Slots: %v, %v", free, withdrawn)
	}
	if s := a.Stats(); s != (api.Stats{}) {
		t.Errorf("Stats: %+v", s)
	}
}

// The errors that the tests expect of nodes that are not valid are those of node.Check.
func TestInvalids(t *testing.T) {
	for _, i := range invalids() {
		if e := node.Check(i.x); e != i.e {
			t.Errorf("Check(%s): %d; want %d", show(i.x), e, i.e)
		}
	}
}
