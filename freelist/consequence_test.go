package freelist_test

import (
	"math/rand"
	"slices"
	"testing"

	"quarto/api"
	"quarto/freelist"
)

// again returns a list on which calls are made: 0 is Take, and any other number is Give of it.
func again(t *testing.T, n int, gens uint64, calls []api.Handle) *run {
	t.Helper()
	r := start(t, n, gens)
	for _, h := range calls {
		if h == 0 {
			r.quickTake()
		} else {
			r.quickGive(h)
		}
	}
	r.check()
	return r
}

// P11.2 to P11.6: all short sequences of calls, those among them that return errors.
func TestShort(t *testing.T) {
	for _, x := range []struct {
		n      int
		gens   uint64
		length int
	}{{1, 1, 6}, {1, 2, 5}, {1, 3, 5}, {2, 1, 5}, {2, 2, 4}, {3, 1, 4}, {3, 3, 3}} {
		choices := []api.Handle{0, made(16384, 1)}
		for slot := range x.n + 1 {
			for gen := uint64(1); gen <= x.gens+1; gen++ {
				choices = append(choices, made(slot, gen))
			}
		}
		var grow func(calls []api.Handle)
		grow = func(calls []api.Handle) {
			again(t, x.n, x.gens, calls)
			if len(calls) < x.length {
				for _, h := range choices {
					grow(append(slices.Clip(calls), h))
				}
			}
		}
		grow(nil)
	}
}

// P11.2 to P11.6: all ways in which small lists are used up, until all slots are withdrawn.
func TestUsedUp(t *testing.T) {
	for _, x := range []struct {
		n    int
		gens uint64
	}{{1, 1}, {1, 2}, {1, 7}, {2, 1}, {2, 2}, {2, 3}, {3, 1}, {4, 1}} {
		var grow func(calls []api.Handle)
		grow = func(calls []api.Handle) {
			r := again(t, x.n, x.gens, calls)
			live := r.l.Handles()
			if len(r.stack) > 0 {
				live = append(live, 0)
			}
			if len(live) == 0 && len(r.seen) != x.n*int(x.gens) {
				r.fail("used up after %d handles", len(r.seen))
			}
			for _, h := range live {
				grow(append(slices.Clip(calls), h))
			}
		}
		grow(nil)
	}
}

// P11.2 to P11.6: long sequences of calls, with more slots taken or fewer, against the model after each call.
func TestLong(t *testing.T) {
	random := rand.New(rand.NewSource(11))
	for i := range 60 {
		n, gens := 1+random.Intn(40), 1+uint64(random.Intn(1+i%9))
		r := start(t, n, gens)
		if i%3 == 0 {
			r = aged(t, n, lastGen, lastGen-gens)
		}
		takes := 2 + i%7 // of 10
		for range 400 {
			live := r.live()
			switch {
			case random.Intn(10) == 0:
				r.give(r.anyStale(random))
			case random.Intn(10) < takes || len(live) == 0:
				r.take()
			default:
				r.give(live[random.Intn(len(live))])
			}
		}
	}
}

// P11.2 to P11.5: a list of all slots that an arena can have.
func TestMost(t *testing.T) {
	random := rand.New(rand.NewSource(12))
	r := start(t, most, 2)
	var order []api.Handle
	for range most {
		order = append(order, r.quickTake())
	}
	r.take()
	random.Shuffle(most, func(i, j int) { order[i], order[j] = order[j], order[i] })
	for _, h := range order[:200] {
		r.give(h)
		r.quickGive(h)
	}
	for range 150 {
		r.give(r.take())
		r.take()
	}
	r.give(made(most, 1))
	for r.quickTake() != 0 {
	}
	for _, h := range r.live() {
		r.quickGive(h)
	}
	r.check()
	l := slices.Concat(r.l.Free(), r.l.Withdrawn())
	slices.Sort(l)
	if len(l) != most || l[0] != 0 || l[most-1] != most-1 {
		t.Errorf("%d slots, from %d to %d, are free or withdrawn", len(l), l[0], l[most-1])
	}
}

// P11.6: each slot is taken as often as there are generations, and then the list is used up.
func TestTimes(t *testing.T) {
	for _, n := range []int{1, 2, 3, 20} {
		for _, gens := range []uint64{1, 2, 5, 100} {
			l, e := freelist.New(n, gens)
			if e != api.OK {
				t.Fatalf("New(%d, %d): %d", n, gens, e)
			}
			times, held := make([]uint64, n), []api.Handle(nil)
			for {
				h, e := l.Take()
				if e != api.OK && len(held) == 0 {
					break
				}
				if e == api.OK {
					times[h%65536]++
					held = append(held, h)
				}
				// Some are held on to, so that slots grow old at different moments.
				if e != api.OK || len(held) > n/2 {
					l.Give(held[0])
					held = held[1:]
				}
			}
			for slot, is := range times {
				if is != gens {
					t.Fatalf("New(%d, %d): slot %d was taken %d times", n, gens, slot, is)
				}
			}
			if len(l.Withdrawn()) != n {
				t.Fatalf("New(%d, %d): withdrawn are %v", n, gens, l.Withdrawn())
			}
		}
	}
}

// P11.7: what was taken last, given back and taken again: the free slots are the same, and the generation is the next one.
func TestGiveTake(t *testing.T) {
	for n := 1; n <= 5; n++ {
		for taken := 1; taken <= n; taken++ {
			for gens := uint64(1); gens <= 4; gens++ {
				r := start(t, n, gens)
				var h api.Handle
				for range taken {
					h = r.take()
				}
				free := r.l.Free()
				for gen := uint64(1); gen < gens; gen++ {
					r.give(h)
					next := r.take()
					if next != h+65536 || !slices.Equal(r.l.Free(), free) {
						t.Fatalf("%d of %d slots taken: Give(%d) and Take: %d, free are %v; before it %v", taken, n, h, next, r.l.Free(), free)
					}
					h = next
				}
				// At the last generation the slot is withdrawn, and Take takes the next free one.
				r.give(h)
				if next := r.take(); next%65536 == h%65536 && next != 0 || len(free) > 0 && !slices.Equal(r.l.Free(), free[1:]) {
					t.Fatalf("%d of %d slots taken: Give(%d), which withdraws, and Take: %d, free are %v", taken, n, h, next, r.l.Free())
				}
			}
		}
	}
}

// spoil writes over all of a result, also beyond its length.
func spoil[E int | api.Handle](l []E) {
	for i := range l[:cap(l)] {
		l[:cap(l)][i] = 77
	}
}

// R3: results are new memory: writing over them changes no list, and no other result.
func TestMemory(t *testing.T) {
	random := rand.New(rand.NewSource(13))
	r := start(t, 9, 2)
	for range 200 {
		free, live, gone := r.l.Free(), r.l.Handles(), r.l.Withdrawn()
		wantFree, wantLive, wantGone := slices.Clone(free), slices.Clone(live), slices.Clone(gone)
		spoil(r.l.Free())
		spoil(r.l.Handles())
		spoil(r.l.Withdrawn())
		r.check()
		if !slices.Equal(free, wantFree) || !slices.Equal(live, wantLive) || !slices.Equal(gone, wantGone) {
			r.fail("results became %v, %v, %v", free, live, gone)
		}
		if len(live) > 0 && random.Intn(2) == 0 {
			r.give(live[random.Intn(len(live))])
		} else {
			r.take()
		}
		// Nor do calls change what was returned before them.
		if !slices.Equal(free, wantFree) || !slices.Equal(live, wantLive) || !slices.Equal(gone, wantGone) {
			r.fail("results became %v, %v, %v", free, live, gone)
		}
	}
}

// R5, R6: lists know nothing of each other, and the same calls have the same results.
func TestApart(t *testing.T) {
	random := rand.New(rand.NewSource(14))
	first, second, idle := start(t, 8, 3), start(t, 8, 3), start(t, 8, 3)
	for range 300 {
		live := first.live()
		if len(live) > 0 && random.Intn(2) == 0 {
			h := live[random.Intn(len(live))]
			first.give(h)
			idle.check()
			second.give(h)
		} else {
			first.take()
			idle.check()
			second.take()
		}
	}
}
