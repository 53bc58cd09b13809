package freelist_test

import (
	"fmt"
	"math"
	"math/rand"
	"slices"
	"testing"

	"quarto/api"
	"quarto/freelist"
)

// This file has what the tests share: numbers of all sorts, and a plain model of a list, by how often each slot was taken and given back.

const (
	greatest = math.MaxUint64
	most     = api.MaxSlots
	lastGen  = api.MaxGen
)

// noLengths are numbers of slots that no list has.
func noLengths() []int {
	return []int{0, -1, -2, -most, math.MinInt32, math.MinInt, math.MinInt + 1, most + 1, most + 2, 65535, 65536, 65537, 1 << 32, 1<<32 + 1, math.MaxInt32, math.MaxInt - 1, math.MaxInt}
}

// noLimits are numbers that are no limits of generations.
func noLimits() []uint64 {
	return []uint64{0, lastGen + 1, lastGen + 2, 1 << 33, 1<<33 + 1, 1 << 48, math.MaxInt64, 1 << 63, 1<<63 + 1, greatest - 1, greatest}
}

// made is the number that is made of a slot and a generation.
func made(slot int, gen uint64) api.Handle { return api.Handle(gen*65536 + uint64(slot)) }

// run is a list together with its model.
type run struct {
	t     *testing.T
	l     *freelist.List
	n     int
	gens  uint64
	stack []int    // the free slots, the top one first
	took  []uint64 // how often each slot was taken
	gave  []uint64 // and given back
	past  []api.Handle
	seen  map[api.Handle]bool // what Take returned
	calls int
	last  string // the last call
}

// start makes a list and its model, and checks it.
func start(t *testing.T, n int, gens uint64) *run {
	t.Helper()
	l, e := freelist.New(n, gens)
	if l == nil || e != api.OK {
		t.Fatalf("New(%d, %d): %v, %d", n, gens, l, e)
	}
	r := &run{t: t, l: l, n: n, gens: gens, took: make([]uint64, n), gave: make([]uint64, n), seen: map[api.Handle]bool{}, last: "New"}
	for slot := range n {
		r.stack = append(r.stack, slot)
	}
	r.check()
	return r
}

// aged is a list all of whose slots were taken and given back before, so that they are at a generation.
func aged(t *testing.T, n int, gens, gen uint64) *run {
	t.Helper()
	r := start(t, n, gens)
	r.l.Age(gen)
	for slot := range n {
		r.took[slot], r.gave[slot] = gen-1, gen-1
	}
	r.check()
	return r
}

func (r *run) gen(slot int) uint64       { return r.gave[slot] + 1 }
func (r *run) isTaken(slot int) bool     { return r.took[slot] > r.gave[slot] }
func (r *run) isWithdrawn(slot int) bool { return r.gave[slot] == r.gens }

// isLive is the definition of a live handle.
func (r *run) isLive(h api.Handle) bool {
	slot := int(h % 65536)
	return slot < r.n && r.isTaken(slot) && h == made(slot, r.gen(slot))
}

// live are the live handles, in ascending order of their slots.
func (r *run) live() []api.Handle {
	var l []api.Handle
	for slot := range r.n {
		if r.isTaken(slot) {
			l = append(l, made(slot, r.gen(slot)))
		}
	}
	return l
}

// withdrawn are the withdrawn slots in ascending order.
func (r *run) withdrawn() []int {
	var l []int
	for slot := range r.n {
		if r.isWithdrawn(slot) {
			l = append(l, slot)
		}
	}
	return l
}

// fail tells in which list, and after which call, something was wrong.
func (r *run) fail(format string, args ...any) {
	r.t.Helper()
	r.t.Fatalf("list of %d slots and %d generations, after %d calls, the last one %s: %s", r.n, r.gens, r.calls, r.last, fmt.Sprintf(format, args...))
}

// call notes a call.
func (r *run) call(format string, args ...any) {
	r.calls++
	r.last = fmt.Sprintf(format, args...)
}

// take calls Take, and checks what it returns and does.
func (r *run) take() api.Handle {
	r.t.Helper()
	h := r.quickTake()
	r.check()
	return h
}

// quickTake calls Take and checks what it returns.
func (r *run) quickTake() api.Handle {
	r.t.Helper()
	r.call("Take")
	want, e := api.Handle(0), api.ErrFull
	if len(r.stack) > 0 {
		slot := r.stack[0]
		r.stack = r.stack[1:]
		r.took[slot]++
		want, e = made(slot, r.gen(slot)), api.OK
	}
	h, got := r.l.Take()
	if h != want || got != e {
		r.fail("got %d, %d; want %d, %d", h, got, want, e)
	}
	if r.seen[h] {
		r.fail("%d was taken before", h)
	}
	if got == api.OK {
		r.seen[h] = true
	}
	return h
}

// give calls Give, and checks what it returns and does.
func (r *run) give(h api.Handle) {
	r.t.Helper()
	r.quickGive(h)
	r.check()
}

// quickGive calls Give and checks what it returns.
func (r *run) quickGive(h api.Handle) {
	r.t.Helper()
	r.call("Give(%d)", h)
	want, e := false, api.ErrStale
	if r.isLive(h) {
		slot := int(h % 65536)
		r.gave[slot]++
		want, e = r.isWithdrawn(slot), api.OK
		if !want {
			r.stack = slices.Concat([]int{slot}, r.stack)
		}
		r.past = append(r.past, h)
	}
	if withdrawn, got := r.l.Give(h); withdrawn != want || got != e {
		r.fail("got %t, %d; want %t, %d", withdrawn, got, want, e)
	}
}

// check asks all queries.
func (r *run) check() {
	r.t.Helper()
	free, live, withdrawn := r.l.Free(), r.l.Handles(), r.l.Withdrawn()
	if !slices.Equal(free, r.stack) {
		r.fail("Free: %v; want %v", free, r.stack)
	}
	if want := r.live(); !slices.Equal(live, want) {
		r.fail("Handles: %v; want %v", live, want)
	}
	if want := r.withdrawn(); !slices.Equal(withdrawn, want) {
		r.fail("Withdrawn: %v; want %v", withdrawn, want)
	}
	r.checkOnce(free, live, withdrawn)
	r.checkGens()
	for slot := range r.n {
		for _, h := range around(slot, r.gen(slot)) {
			r.checkLive(h)
		}
	}
	for _, h := range strange(r.n) {
		r.checkLive(h)
	}
	for _, h := range r.past {
		if r.l.Live(h) {
			r.fail("%d was given back, and is live", h)
		}
	}
}

// checkOnce checks that each slot is free, taken or withdrawn, and exactly one of these (P11.5), and how many there are (P11.6).
func (r *run) checkOnce(free []int, live []api.Handle, withdrawn []int) {
	times := make([]int, r.n)
	for _, slot := range free {
		times[slot]++
	}
	for _, h := range live {
		times[h%65536]++
	}
	for _, slot := range withdrawn {
		times[slot]++
	}
	for slot, is := range times {
		if is != 1 {
			r.fail("slot %d is %d of free, taken and withdrawn", slot, is)
		}
	}
	if len(withdrawn) == 0 && len(free) != r.n-len(live) {
		r.fail("%d free slots, and %d live handles", len(free), len(live))
	}
}

// checkGens asks for the generations of all slots, and of some that do not exist.
func (r *run) checkGens() {
	for slot := range r.n {
		want, e := r.gen(slot), api.OK
		if r.isWithdrawn(slot) {
			want, e = 0, api.ErrNone
		}
		if gen, got := r.l.Gen(slot); gen != want || got != e {
			r.fail("Gen(%d): %d, %d; want %d, %d", slot, gen, got, want, e)
		}
	}
	for _, slot := range []int{-1, -2, -r.n, math.MinInt, math.MinInt32, r.n, r.n + 1, 2 * r.n, most, 65536, 1 << 32, math.MaxInt32, math.MaxInt} {
		if gen, got := r.l.Gen(slot); gen != 0 || got != api.ErrRange {
			r.fail("Gen(%d): %d, %d; want ErrRange", slot, gen, got)
		}
	}
}

// checkLive asks whether a handle is live.
func (r *run) checkLive(h api.Handle) {
	if got, want := r.l.Live(h), r.isLive(h); got != want {
		r.fail("Live(%d), slot %d and generation %d: %t; want %t", h, h%65536, h/65536, got, want)
	}
}

// around are handles of a slot at and around a generation, and numbers that differ from them where no valid handle has a bit.
func around(slot int, gen uint64) [11]api.Handle {
	h := made(slot, gen)
	return [...]api.Handle{
		h, h + 65536, h + 2*65536, h - 65536, made(slot, 1), made(slot, 0), made(slot, lastGen),
		h + 16384, h + 32768, h + 1<<48, h + 1<<63,
	}
}

// strange are handles of slots that a list of n slots does not have, and numbers that are no handles.
func strange(n int) []api.Handle {
	l := []api.Handle{0, 1, 2, 3, 16384, 65535, made(16384, 1), made(65535, 1), 1 << 48, 1<<48 + 65536, 1<<48 + 65537, 1 << 63, 1<<63 + 65536, greatest - 65535, greatest - 1, greatest}
	for _, slot := range []int{n, n + 1, 2 * n, most - 1} {
		if slot >= n && slot < most {
			others := around(slot, 1)
			l = append(l, others[:]...)
		}
	}
	return l
}

// stale are numbers that are not live handles: those that were given back, those of free slots, and those that no slot has.
func (r *run) stale() []api.Handle {
	l := append(strange(r.n), r.past...)
	for slot := range r.n {
		others := around(slot, r.gen(slot))
		l = append(l, others[:]...)
	}
	return slices.DeleteFunc(l, r.isLive)
}

// anyStale is one of the stale numbers, without a list of them all.
func (r *run) anyStale(random *rand.Rand) api.Handle {
	slot := random.Intn(r.n)
	others := around(slot, r.gen(slot))
	l := append(strange(r.n), others[:]...)
	if len(r.past) > 0 {
		l = append(l, r.past[random.Intn(len(r.past))], r.past[len(r.past)-1])
	}
	l = slices.DeleteFunc(l, r.isLive)
	return l[random.Intn(len(l))]
}
