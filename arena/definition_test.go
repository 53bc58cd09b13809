package arena_test

import (
	"fmt"
	"math"
	"math/rand"
	"slices"
	"strings"
	"testing"

	"quarto/api"
	"quarto/arena"
	"quarto/node"
)

// This file has what the tests share: numbers and nodes of all sorts, and a plain model of an arena, against which each call is held.

const (
	greatest = math.MaxUint64
	most     = api.MaxSlots
	lastGen  = api.MaxGen
)

// noLengths are numbers of slots that no arena has.
func noLengths() []int {
	return []int{0, -1, -2, -most, math.MinInt32, math.MinInt, math.MinInt + 1, most + 1, most + 2, 65535, 65536, 65537, 1 << 32, 1<<32 + 1, math.MaxInt32, math.MaxInt - 1, math.MaxInt}
}

// noLimits are numbers that are no limits of generations.
func noLimits() []uint64 {
	return []uint64{0, lastGen + 1, lastGen + 2, 1 << 33, 1<<33 + 1, 1 << 48, math.MaxInt64, 1 << 63, 1<<63 + 1, greatest - 1, greatest}
}

// made is the number that is made of a slot and a generation.
func made(slot int, gen uint64) api.Handle { return api.Handle(gen*65536 + uint64(slot)) }

// leaf is a node of height 0.
func leaf(text string) api.Node { return api.Node{Text: text} }

// inner is a node with children.
func inner(height int, kids ...api.Kid) api.Node { return api.Node{Height: height, Kids: kids} }

// child is a child that has as many runes as bytes, and no line feeds.
func child(at api.Handle, bytes int) api.Kid {
	return api.Kid{At: at, M: api.Measure{Bytes: bytes, Runes: bytes}}
}

// measured is the measure of a node, byte by byte and child by child.
func measured(x api.Node) api.Measure {
	var sum api.Measure
	for _, b := range []byte(x.Text) {
		sum.Bytes++
		if b < 128 || b > 191 {
			sum.Runes++
		}
		if b == 10 {
			sum.Lines++
		}
	}
	for _, k := range x.Kids {
		sum.Bytes += k.M.Bytes
		sum.Runes += k.M.Runes
		sum.Lines += k.M.Lines
	}
	return sum
}

// same tells whether two nodes are equal, a nil list of children being an empty one.
func same(a, b api.Node) bool {
	return a.Height == b.Height && a.Text == b.Text && slices.Equal(a.Kids, b.Kids)
}

// show prints a node, and of a long text the beginning.
func show(x api.Node) string {
	return fmt.Sprintf("{height %d, %.40q, %v}", x.Height, x.Text, x.Kids)
}

// run is an arena together with its model.
type run struct {
	t       *testing.T
	a       *arena.Arena
	slots   int
	gens    uint64
	stack   []int                   // the free slots, the next one first
	nodes   map[api.Handle]api.Node // what the live handles have
	gave    []uint64                // how often each slot was freed
	past    []api.Handle            // what was freed
	stats   api.Stats               // of calls only
	calls   int
	last    string // the last call
	orderly bool   // whether no node was freed before those that have it as a child
}

// start makes an arena and its model, and checks it.
func start(t *testing.T, slots int, gens uint64) *run {
	t.Helper()
	a, e := arena.New(slots, gens)
	if a == nil || e != api.OK {
		t.Fatalf("New(%d, %d): %v, %d", slots, gens, a, e)
	}
	r := &run{t: t, a: a, slots: slots, gens: gens, nodes: map[api.Handle]api.Node{}, gave: make([]uint64, slots), last: "New", orderly: true}
	for slot := range slots {
		r.stack = append(r.stack, slot)
	}
	r.check()
	return r
}

// isLive is the definition of a live handle.
func (r *run) isLive(h api.Handle) bool {
	_, is := r.nodes[h]
	return is
}

// live are the live handles, in ascending order of their slots.
func (r *run) live() []api.Handle {
	var l []api.Handle
	for slot, gave := range r.gave {
		if h := made(slot, gave+1); r.isLive(h) {
			l = append(l, h)
		}
	}
	return l
}

// withdrawn are the withdrawn slots in ascending order.
func (r *run) withdrawn() []int {
	var l []int
	for slot, gave := range r.gave {
		if gave == r.gens {
			l = append(l, slot)
		}
	}
	return l
}

// counts are what Stats returns.
func (r *run) counts() api.Stats {
	s := r.stats
	s.Slots, s.Free, s.Live, s.Withdrawn = r.slots, len(r.stack), len(r.nodes), len(r.withdrawn())
	return s
}

// kid is a live node as a child.
func (r *run) kid(h api.Handle) api.Kid { return api.Kid{At: h, M: measured(r.nodes[h])} }

// hasParent tells whether a live node has h as a child.
func (r *run) hasParent(h api.Handle) bool {
	for _, x := range r.nodes {
		if slices.ContainsFunc(x.Kids, func(k api.Kid) bool { return k.At == h }) {
			return true
		}
	}
	return false
}

// fail tells in which arena, and after which call, something was wrong.
func (r *run) fail(format string, args ...any) {
	r.t.Helper()
	r.t.Fatalf("arena of %d slots and %d generations, after %d calls, the last one %s: %s", r.slots, r.gens, r.calls, r.last, fmt.Sprintf(format, args...))
}

// call notes a call.
func (r *run) call(format string, args ...any) {
	r.calls++
	r.last = fmt.Sprintf(format, args...)
}

// refused is the error of Alloc, and OK if there is none.
func (r *run) refused(x api.Node) api.Errno {
	if e := node.Check(x); e != api.OK {
		return e
	}
	for _, k := range x.Kids {
		is, live := r.nodes[k.At]
		if !live {
			return api.ErrStale
		}
		if is.Height != x.Height-1 || measured(is) != k.M {
			return api.ErrShape
		}
	}
	if len(r.stack) == 0 {
		return api.ErrFull
	}
	return api.OK
}

// alloc calls Alloc, and checks what it returns and does.
func (r *run) alloc(x api.Node) api.Handle {
	r.t.Helper()
	h := r.quickAlloc(x)
	r.check()
	return h
}

// quickAlloc calls Alloc and checks what it returns. What it was given is written over then, so that nothing may be kept of it.
func (r *run) quickAlloc(x api.Node) api.Handle {
	r.t.Helper()
	r.call("Alloc(%s)", show(x))
	want, e := api.Handle(0), r.refused(x)
	if e == api.OK {
		slot := r.stack[0]
		r.stack = r.stack[1:]
		want = made(slot, r.gave[slot]+1)
		r.nodes[want] = api.Node{Height: x.Height, Text: x.Text, Kids: slices.Clone(x.Kids)}
		r.stats.Allocs++
	}
	room := append(slices.Clone(x.Kids), api.Kid{At: greatest, M: api.Measure{Bytes: -1}}, child(65536, 8))
	before := slices.Clone(room)
	h, got := r.a.Alloc(api.Node{Height: x.Height, Text: x.Text, Kids: room[:len(x.Kids)]})
	if h != want || got != e {
		r.fail("got %d, %d; want %d, %d", h, got, want, e)
	}
	if !slices.Equal(room, before) {
		r.fail("its children were changed to %v", room)
	}
	spoilKids(room)
	return h
}

// allocs is alloc where a certain error is to come, or none.
func (r *run) allocs(x api.Node, e api.Errno) api.Handle {
	r.t.Helper()
	if is := r.refused(x); is != e {
		r.fail("before Alloc(%s): the model refuses it with %d; want %d", show(x), is, e)
	}
	return r.alloc(x)
}

// get calls Get, and checks what it returns and does.
func (r *run) get(h api.Handle) {
	r.t.Helper()
	r.quickGet(h)
	r.check()
}

// quickGet calls Get and checks what it returns, which is written over then.
func (r *run) quickGet(h api.Handle) {
	r.t.Helper()
	r.call("Get(%d)", h)
	want, e := r.nodes[h], api.OK
	if !r.isLive(h) {
		e = api.ErrStale
		r.stats.Stale++
	}
	x, got := r.a.Get(h)
	if !same(x, want) || got != e {
		r.fail("got %s, %d; want %s, %d", show(x), got, show(want), e)
	}
	spoilKids(x.Kids)
}

// free calls Free, and checks what it returns and does.
func (r *run) free(h api.Handle) {
	r.t.Helper()
	r.quickFree(h)
	r.check()
}

// quickFree calls Free and checks what it returns.
func (r *run) quickFree(h api.Handle) {
	r.t.Helper()
	r.call("Free(%d)", h)
	want := api.ErrStale
	if r.isLive(h) {
		want = api.OK
		delete(r.nodes, h)
		r.orderly = r.orderly && !r.hasParent(h)
		slot := int(h % 65536)
		r.gave[slot]++
		if r.gave[slot] < r.gens {
			r.stack = slices.Concat([]int{slot}, r.stack)
		}
		r.past = append(r.past, h)
		r.stats.Frees++
	} else {
		r.stats.Stale++
	}
	if e := r.a.Free(h); e != want {
		r.fail("got %d; want %d", e, want)
	}
}

// check asks all queries, and then for the nodes of all live handles.
func (r *run) check() {
	r.t.Helper()
	r.checkLists()
	r.checkStats()
	for slot, gave := range r.gave {
		for _, h := range around(slot, gave+1) {
			r.checkLive(h)
		}
	}
	for _, h := range strange(r.slots) {
		r.checkLive(h)
	}
	for _, h := range r.past {
		if r.a.Live(h) {
			r.fail("%d was freed, and is live", h)
		}
	}
	r.checkNodes()
	r.checkLists()
	r.checkStats() // which queries, and accesses that are not stale, do not change
}

// checkLists asks for the live handles and the slots. What is returned is written over then.
func (r *run) checkLists() {
	r.t.Helper()
	live := r.a.Handles()
	free, withdrawn := r.a.Slots()
	if want := r.live(); !slices.Equal(live, want) {
		r.fail("Handles: %v; want %v", live, want)
	}
	if want := r.withdrawn(); !slices.Equal(free, r.stack) || !slices.Equal(withdrawn, want) {
		r.fail("Slots: %v and %v; want %v and %v", free, withdrawn, r.stack, want)
	}
	spoil(live)
	spoil(free)
	spoil(withdrawn)
}

// checkStats checks what Stats returns, and that it is as P13.7 says.
func (r *run) checkStats() {
	r.t.Helper()
	s := r.a.Stats()
	if want := r.counts(); s != want {
		r.fail("Stats: %+v; want %+v", s, want)
	}
	if s.Slots != s.Free+s.Live+s.Withdrawn || s.Live != s.Allocs-s.Frees || s.Withdrawn > s.Frees || uint64(s.Allocs) > uint64(s.Slots)*r.gens {
		r.fail("Stats: %+v", s)
	}
}

// checkLive asks whether a handle is live.
func (r *run) checkLive(h api.Handle) {
	r.t.Helper()
	if got, want := r.a.Live(h), r.isLive(h); got != want {
		r.fail("Live(%d), slot %d and generation %d: %t; want %t", h, h%65536, h/65536, got, want)
	}
}

// checkNodes asks for the nodes of all live handles. Where no node was freed before its parents, their children are as P13.8 says.
func (r *run) checkNodes() {
	r.t.Helper()
	for h, want := range r.nodes {
		x, e := r.a.Get(h)
		if !same(x, want) || e != api.OK {
			r.fail("Get(%d): %s, %d; want %s", h, show(x), e, show(want))
		}
		for _, k := range x.Kids {
			if !r.orderly {
				break
			}
			below, e := r.a.Get(k.At)
			if e != api.OK || !r.a.Live(k.At) || below.Height != x.Height-1 || measured(below) != k.M {
				r.fail("%d has the child %v, which is %s, %d", h, k, show(below), e)
			}
		}
		spoilKids(x.Kids)
	}
}

// spoil writes over all of a list, also beyond its length.
func spoil[E int | api.Handle](l []E) {
	for i := range l[:cap(l)] {
		l[:cap(l)][i] = 77
	}
}

// spoilKids writes over all of a list of children, also beyond its length.
func spoilKids(l []api.Kid) {
	for i := range l[:cap(l)] {
		l[:cap(l)][i] = api.Kid{At: 77, M: api.Measure{Bytes: 7, Runes: 7, Lines: 7}}
	}
}

// around are handles of a slot at and around a generation, and numbers that differ from them where no valid handle has a bit.
func around(slot int, gen uint64) [11]api.Handle {
	h := made(slot, gen)
	return [...]api.Handle{
		h, h + 65536, h + 2*65536, h - 65536, made(slot, 1), made(slot, 0), made(slot, lastGen),
		h + 16384, h + 32768, h + 1<<48, h + 1<<63,
	}
}

// strange are handles of slots that an arena of n slots does not have, and numbers that are no handles.
func strange(n int) []api.Handle {
	l := []api.Handle{0, 1, 2, 3, 16384, 65535, made(16384, 1), made(65535, 1), 1 << 48, 1<<48 + 65536, 1<<48 + 65537, 1 << 63, 1<<63 + 65536, greatest - 65535, greatest - 1, greatest}
	for _, slot := range []int{n, n + 1, 2 * n, most - 1} {
		if slot >= n && slot < most {
			others := around(slot, 1)
			l = append(l, others[:]...)
		}
	}
	return l
}

// stale are numbers that are not live handles: those that were freed, those of free slots, and those that no slot has.
func (r *run) stale() []api.Handle {
	l := append(strange(r.slots), r.past...)
	for slot, gave := range r.gave {
		others := around(slot, gave+1)
		l = append(l, others[:]...)
	}
	return slices.DeleteFunc(l, r.isLive)
}

// anyStale is one of the stale numbers, without a list of them all.
func (r *run) anyStale(random *rand.Rand) api.Handle {
	slot := random.Intn(r.slots)
	others := around(slot, r.gave[slot]+1)
	l := append(strange(r.slots), others[:]...)
	if len(r.past) > 0 {
		l = append(l, r.past[random.Intn(len(r.past))], r.past[len(r.past)-1])
	}
	l = slices.DeleteFunc(l, r.isLive)
	return l[random.Intn(len(l))]
}

// texts are texts that a leaf can have, of each length, among them texts that are no valid UTF-8.
func texts() []string {
	l := []string{"\n", "\x00", "\x80", "\xff", "ab\n", "a\nb\n", "\xe2\x82\xac\xe2\x82\xac\xe2\x82\xac", "\x80\x80\x80\x80\x80\x80\x80\x80", "\n\n\n\n\n\n\n\n\n\n\n\n\n\n\n\n", "\xe2\x82", "0123456789abcde\x80"}
	for n := 1; n <= 16; n++ {
		l = append(l, "0123456789abcdef"[:n])
	}
	return l
}

// invalid is a node that is not valid, with the error of node.Check.
type invalid struct {
	x api.Node
	e api.Errno
}

// invalids are nodes that are not valid. Where their children have handles, these are not live in arenas of at most 9,000 slots.
func invalids() []invalid {
	k := []api.Kid{child(made(9000, 1), 8), child(made(9001, 1), 9), child(made(9002, 1), 10), child(made(9003, 1), 11), child(made(9004, 1), 12)}
	great := []api.Kid{child(made(9000, 1), 65536), child(made(9001, 1), 65536)}
	shapes := []api.Node{
		{}, {Kids: []api.Kid{}}, leaf("0123456789abcdefg"), leaf(strings.Repeat("x", 65537)), {Text: "a", Kids: k[:1]}, {Text: "a", Kids: k[:2]}, {Kids: k[:2]}, {Height: 1, Text: "a"}, {Height: 1, Text: "a", Kids: k[:2]}, {Height: -1, Text: "a"},
		inner(1), inner(1, k[0]), inner(1, k...), inner(-1, k[:2]...), inner(math.MinInt, k[:2]...), inner(17, great...), inner(math.MaxInt, great...), inner(2, k[:2]...), inner(15, great...), inner(16, great...),
		inner(1, k[0], child(0, 8)), inner(1, child(3, 8), k[0]), inner(1, child(made(16384, 1), 8), k[0]), inner(1, k[0], child(1<<48+65536, 8)), inner(1, child(greatest, 8), k[1]), inner(1, k[0], child(k[0].At, 7)), inner(1, k[0], child(k[0].At, 17)),
		inner(1, k[0], api.Kid{At: k[0].At, M: api.Measure{Bytes: 8, Runes: 9}}), inner(1, k[0], api.Kid{At: k[0].At, M: api.Measure{Bytes: 8, Runes: 2, Lines: 3}}), inner(1, k[0], api.Kid{At: k[0].At, M: api.Measure{Bytes: 8, Runes: -1}}),
	}
	l := []invalid{
		{inner(7, great...), api.ErrLong}, {inner(14, great...), api.ErrLong}, {inner(7, child(made(9000, 1), 512), child(made(9000, 1), 65025)), api.ErrLong},
	}
	for _, x := range shapes {
		l = append(l, invalid{x, api.ErrShape})
	}
	return l
}
