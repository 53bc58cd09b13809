package freelist_test

import (
	"fmt"
	"math"
	"slices"
	"testing"

	"quarto/api"
	"quarto/freelist"
	"quarto/handle"
)

// The chapter's examples, in their order.
func TestExamples(t *testing.T) {
	l, e := freelist.New(3, 2)
	if e != api.OK {
		t.Fatalf("New(3, 2): %d", e)
	}
	is := func(call string, got, want any) {
		t.Helper()
		if fmt.Sprint(got) != fmt.Sprint(want) {
			t.Errorf("%s: %v; want %v", call, got, want)
		}
	}
	text := func(h api.Handle, e api.Errno) string {
		if e != api.OK {
			return fmt.Sprint("error ", int(e))
		}
		s, _ := handle.Text(h)
		return s
	}
	texts := func(l []api.Handle) (s []string) {
		for _, h := range l {
			s = append(s, text(h, api.OK))
		}
		return s
	}
	give := func(slot int, gen uint64) string {
		withdrawn, e := l.Give(made(slot, gen))
		return fmt.Sprint(withdrawn, " ", int(e))
	}
	gen := func(slot int) string {
		gen, e := l.Gen(slot)
		return fmt.Sprint(gen, " ", int(e))
	}
	is("Take", text(l.Take()), "0.1")
	is("Take", text(l.Take()), "1.1")
	is("Free", l.Free(), "[2]")
	is("Handles", texts(l.Handles()), "[0.1 1.1]")
	is("Give(0.1)", give(0, 1), "false 0")
	is("Free", l.Free(), "[0 2]")
	is("Gen(0)", gen(0), "2 0")
	is("Live(0.1)", l.Live(made(0, 1)), false)
	is("Take", text(l.Take()), "0.2")
	is("Give(0.2)", give(0, 2), "true 0")
	is("Withdrawn", l.Withdrawn(), "[0]")
	is("Gen(0)", gen(0), "0 7")
	is("Give(0.2)", give(0, 2), "false 10")
	is("Take", text(l.Take()), "2.1")
	is("Take", text(l.Take()), "error 6")
	is("Gen(3)", gen(3), "0 3")
}

// P11.1: a new list has all of its slots on the stack, slot 0 on top, each with the generation 1.
func TestNew(t *testing.T) {
	for _, n := range []int{1, 2, 3, 77, 255, 256, 257, most - 1, most} {
		for _, gens := range []uint64{1, 2, 3, 65535, 65536, math.MaxInt32, 1 << 31, lastGen - 1, lastGen} {
			r := start(t, n, gens) // which checks it
			if n > 77 {
				continue
			}
			for slot := range n {
				if h := r.take(); h != made(slot, 1) {
					t.Fatalf("New(%d, %d): slot %d is taken as %d", n, gens, slot, h)
				}
			}
			r.take()
		}
	}
}

// P11.1: lengths and limits that no list has, one of the two, and both.
func TestNewErrors(t *testing.T) {
	none := func(n int, gens uint64) {
		t.Helper()
		if l, e := freelist.New(n, gens); l != nil || e != api.ErrRange {
			t.Fatalf("New(%d, %d): %v, %d; want ErrRange", n, gens, l, e)
		}
	}
	for _, n := range noLengths() {
		for _, gens := range append(noLimits(), 1, 2, lastGen-1, lastGen) {
			none(n, gens)
		}
	}
	for _, gens := range noLimits() {
		for _, n := range []int{1, 2, most - 1, most} {
			none(n, gens)
		}
	}
	none(0, 1)
	none(1, 0)
	none(0, 0)
	none(api.MaxSlots+1, 1)
	none(1, api.MaxGen+1)
	none(api.MaxSlots+1, api.MaxGen+1)
	none(math.MinInt, math.MaxUint64)
	none(math.MaxInt, math.MaxUint64)
}

// P11.2: the slots are taken from the top of the stack to its bottom, and then there is none, however often one asks.
func TestTake(t *testing.T) {
	for _, n := range []int{1, 2, 5, 30} {
		r := start(t, n, 3)
		var first []api.Handle
		for range n {
			first = append(first, r.take())
		}
		for range 3 {
			r.take()
			if h, e := r.l.Take(); h != 0 || e != api.ErrFull {
				t.Fatalf("Take of a list without free slots: %d, %d", h, e)
			}
		}
		for _, h := range first {
			r.give(h)
		}
		// What was given back last is taken first.
		for i := range n {
			if h, want := r.take(), made(n-1-i, 2); h != want {
				t.Fatalf("Take of %d slots: %d; want %d", n, h, want)
			}
		}
		r.take()
	}
}

// P11.2: no slot is free, since all are taken, or all are withdrawn, or each is one of the two.
func TestTakeFull(t *testing.T) {
	for taken := range 5 {
		r := start(t, 4, 1)
		for range 4 {
			r.take()
		}
		for slot := taken; slot < 4; slot++ {
			r.give(made(slot, 1))
			r.take()
		}
		if h, e := r.l.Take(); h != 0 || e != api.ErrFull {
			t.Fatalf("%d taken slots, the others withdrawn: Take: %d, %d", taken, h, e)
		}
	}
}

// P11.3: a live handle's slot comes on top of the stack, with the next generation, whether other slots are free or not.
func TestGive(t *testing.T) {
	for n := 1; n <= 6; n++ {
		for taken := 1; taken <= n; taken++ {
			for slot := range taken {
				r := start(t, n, 2)
				for range taken {
					r.take()
				}
				r.give(made(slot, 1))
				if free := r.l.Free(); free[0] != slot || len(free) != n-taken+1 {
					t.Fatalf("Give of slot %d, %d of %d being taken: free are %v", slot, taken, n, free)
				}
				if gen, e := r.l.Gen(slot); gen != 2 || e != api.OK {
					t.Fatalf("Give of slot %d, then Gen: %d, %d", slot, gen, e)
				}
				if h := r.take(); h != made(slot, 2) {
					t.Fatalf("Give of slot %d, then Take: %d", slot, h)
				}
			}
		}
	}
}

// P11.3: whatever is not live is stale, and giving it back changes nothing: in lists with free, taken and withdrawn slots, at each moment.
func TestGiveStale(t *testing.T) {
	r := start(t, 4, 2)
	stale := func() {
		t.Helper()
		for _, h := range r.stale() {
			r.give(h)
		}
	}
	stale()
	a, b := r.take(), r.take()
	stale()
	r.give(a)
	r.give(a) // what was given back
	stale()
	c := r.take()
	r.give(a) // the generation before that of a taken slot
	r.give(made(0, 3))
	r.give(made(1, 2)) // generations to come
	r.give(made(3, 1)) // a free slot
	r.give(made(3, 2))
	r.give(made(4, 1)) // a slot that does not exist
	r.give(made(most-1, 1))
	r.give(made(16384, 1)) // numbers that are no handles
	r.give(0)
	r.give(greatest)
	stale()
	r.give(c)
	r.give(c) // of a slot that was withdrawn
	r.give(a)
	r.give(made(0, 3))
	stale()
	r.give(b)
	stale()
	if free, withdrawn := r.l.Free(), r.l.Withdrawn(); !slices.Equal(free, []int{1, 2, 3}) || !slices.Equal(withdrawn, []int{0}) {
		t.Errorf("Free and Withdrawn: %v, %v", free, withdrawn)
	}
}

// P11.3: a slot is withdrawn at the last generation, and not before it.
func TestGiveLast(t *testing.T) {
	for _, gens := range []uint64{1, 2, 3, 10, 255, 256, 257} {
		r := start(t, 2, gens)
		for gen := uint64(1); gen <= gens; gen++ {
			h := r.take()
			if h != made(0, gen) {
				t.Fatalf("%d generations: Take: %d; want generation %d", gens, h, gen)
			}
			r.give(h)
			if withdrawn := len(r.l.Withdrawn()) == 1; withdrawn != (gen == gens) {
				t.Fatalf("%d generations: withdrawn at generation %d: %t", gens, gen, withdrawn)
			}
		}
		if h := r.take(); h != made(1, 1) {
			t.Fatalf("%d generations, and slot 0 is withdrawn: Take: %d", gens, h)
		}
	}
}

// P11.3: lists whose slots are about to reach generations that need more bits, and the last one of all.
func TestGiveLate(t *testing.T) {
	for _, gens := range []uint64{255, 256, 65535, 65536, math.MaxInt32, 1 << 31, 1<<31 + 1, lastGen - 1, lastGen} {
		r := aged(t, 3, gens, gens-2)
		for range 12 {
			first, second := r.take(), r.take()
			for _, h := range r.stale() {
				r.quickGive(h)
			}
			r.give(first)
			r.give(second)
		}
		if withdrawn := r.l.Withdrawn(); !slices.Equal(withdrawn, []int{0, 1, 2}) {
			t.Fatalf("%d generations: withdrawn are %v", gens, withdrawn)
		}
		// Where a slot is one generation before the last one, it is not withdrawn.
		r = aged(t, 1, lastGen, gens)
		h := r.take()
		r.give(h)
		if gen, e := r.l.Gen(0); gens < lastGen && (gen != gens+1 || e != api.OK) {
			t.Fatalf("Gen after generation %d: %d, %d", gens, gen, e)
		}
	}
}

// P11.3: many generations of one slot, by calls alone.
func TestGiveOften(t *testing.T) {
	const gens = 70000
	l, e := freelist.New(2, gens)
	if e != api.OK {
		t.Fatalf("New: %d", e)
	}
	for gen := uint64(1); gen <= gens; gen++ {
		if now, e := l.Gen(0); now != gen || e != api.OK {
			t.Fatalf("Gen(0): %d, %d; want %d", now, e, gen)
		}
		h, e := l.Take()
		if h != made(0, gen) || e != api.OK || !l.Live(h) {
			t.Fatalf("Take: %d, %d; want %d", h, e, made(0, gen))
		}
		if withdrawn, e := l.Give(h); withdrawn != (gen == gens) || e != api.OK || l.Live(h) {
			t.Fatalf("Give at generation %d: %t, %d", gen, withdrawn, e)
		}
	}
	if _, e := l.Gen(0); e != api.ErrNone {
		t.Errorf("Gen(0): %d; want ErrNone", e)
	}
}

// P11.4: lists without free, without taken, and without withdrawn slots, and lists that have of each, by numbers.
func TestQueries(t *testing.T) {
	const n = 6
	for withdrawn := range n + 1 {
		for taken := range n - withdrawn + 1 {
			r := start(t, n, 1)
			for range withdrawn + taken {
				r.take()
			}
			for slot := withdrawn - 1; slot >= 0; slot-- { // so that they do not come in their order
				r.give(made(slot, 1))
			}
			free, live, gone := r.l.Free(), r.l.Handles(), r.l.Withdrawn()
			if len(free) != n-withdrawn-taken || len(live) != taken || len(gone) != withdrawn {
				t.Fatalf("%d taken, %d withdrawn: %v, %v, %v", taken, withdrawn, free, live, gone)
			}
		}
	}
}

// P11.4: the generations of a free slot, a taken and a withdrawn one, and of slots that do not exist; and the order of slots, where they are taken and withdrawn in another one.
func TestQueriesOrder(t *testing.T) {
	r := start(t, 5, 2)
	var l []api.Handle
	for range 5 {
		l = append(l, r.take())
	}
	for _, slot := range []int{3, 0, 4} {
		r.give(l[slot])
	}
	for _, slot := range []int{4, 0, 3} {
		if h := r.take(); h != made(slot, 2) {
			t.Fatalf("Take: %d; want slot %d", h, slot)
		}
	}
	if live := r.l.Handles(); !slices.Equal(live, []api.Handle{made(0, 2), made(1, 1), made(2, 1), made(3, 2), made(4, 2)}) {
		t.Fatalf("Handles: %v", live)
	}
	for _, h := range []api.Handle{made(4, 2), made(1, 1), made(0, 2)} {
		r.give(h)
	}
	if gone := r.l.Withdrawn(); !slices.Equal(gone, []int{0, 4}) {
		t.Fatalf("Withdrawn: %v", gone)
	}
	for _, x := range []struct {
		slot int
		gen  uint64
		e    api.Errno
	}{{0, 0, api.ErrNone}, {1, 2, api.OK}, {2, 1, api.OK}, {3, 2, api.OK}, {4, 0, api.ErrNone}, {5, 0, api.ErrRange}, {-1, 0, api.ErrRange}, {math.MinInt, 0, api.ErrRange}, {math.MaxInt, 0, api.ErrRange}} {
		if gen, e := r.l.Gen(x.slot); gen != x.gen || e != x.e {
			t.Errorf("Gen(%d): %d, %d; want %d, %d", x.slot, gen, e, x.gen, x.e)
		}
	}
}

// R5, R2: calls to no list, with arguments for which they would have other errors too.
func TestNil(t *testing.T) {
	var l *freelist.List
	if h, e := l.Take(); h != 0 || e != api.ErrNil {
		t.Errorf("Take: %d, %d", h, e)
	}
	for _, h := range append(strange(1), made(0, 1), made(0, lastGen)) {
		if withdrawn, e := l.Give(h); withdrawn || e != api.ErrNil {
			t.Errorf("Give(%d): %t, %d", h, withdrawn, e)
		}
		if l.Live(h) {
			t.Errorf("Live(%d): true", h)
		}
	}
	for _, slot := range append(noLengths(), 1, most-1, most) {
		if gen, e := l.Gen(slot); gen != 0 || e != api.ErrNil {
			t.Errorf("Gen(%d): %d, %d", slot, gen, e)
		}
	}
	if free, live, gone := l.Free(), l.Handles(), l.Withdrawn(); len(free)+len(live)+len(gone) != 0 {
		t.Errorf("Free, Handles, Withdrawn: %v, %v, %v", free, live, gone)
	}
}
