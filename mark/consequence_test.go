package mark_test

import (
	"math/rand"
	"slices"
	"strings"
	"testing"

	"quarto/api"
	"quarto/apply"
	"quarto/compose"
	"quarto/mark"
)

// P9.5: what is found after Set and after Drop.
func TestFound(t *testing.T) {
	for _, l := range append(sets(9), example) {
		for id := uint32(1); id < 150; id++ {
			m := right(id, 5)
			if s, e := mark.Set(l, m); e == api.OK {
				isFind(t, s, id, m, true)
				others(t, l, s, id)
				isCheck(t, 9, s, api.OK)
			} else if _, has := first(l, id); has || len(l) < most {
				t.Fatalf("Set(%s, %v): %d", show(l), m, e)
			}
			if s, e := mark.Drop(l, id); e == api.OK {
				isFind(t, s, id, api.Mark{}, false)
				others(t, l, s, id)
				isCheck(t, 9, s, api.OK)
			} else if _, has := first(l, id); has {
				t.Fatalf("Drop(%s, %d): %d", show(l), id, e)
			}
		}
	}
}

// others checks that two sets have the same marks, but for the one with an ID.
func others(t *testing.T, l, s []api.Mark, id uint32) {
	t.Helper()
	if !slices.Equal(without(l, id), without(s, id)) {
		t.Fatalf("%s became %s; only %d was to change", show(l), show(s), id)
	}
	for _, m := range without(l, id) {
		isFind(t, s, m.ID, m, true)
	}
}

// P9.5: the order in which two marks with different IDs are set.
func TestSetTwo(t *testing.T) {
	few := marks(left(1, 0), right(2, 4), left(3, 3), right(5, 1), left(8, 2), left(9, 9), right(10, 0), left(greatest, 1))
	for _, l := range [][]api.Mark{nil, example, marks(left(4, 4)), numbered(5), numbered(most - 2)} {
		for _, a := range few {
			for _, b := range few {
				if a.ID == b.ID {
					continue
				}
				ab, ba := set(t, set(t, l, a), b), set(t, set(t, l, b), a)
				if !slices.Equal(ab, ba) {
					t.Fatalf("%s with %v and %v: %s, or %s", show(l), a, b, show(ab), show(ba))
				}
			}
		}
	}
}

// P9.6: what is moved is a set of marks with the same IDs and gravities, and in the same order.
func TestMoved(t *testing.T) {
	deltas(func(d []api.Piece) {
		in, out := lengths(d)
		for _, l := range sets(in) {
			isCheck(t, out, shifted(t, l, d), api.OK)
		}
		l := every(in)
		s := shiftedAll(t, l, d)
		for i, a := range l {
			if s[i].ID != a.ID || s[i].Gravity != a.Gravity || s[i].At < 0 || s[i].At > out {
				t.Fatalf("%s: %v became %v", showDelta(d), a, s[i])
			}
			for j, b := range l {
				ordered := a.Gravity == b.Gravity || a.Gravity == api.Left && b.Gravity == api.Right
				if ordered && a.At <= b.At && s[i].At > s[j].At {
					t.Fatalf("%s: %v became %v, and %v became %v", showDelta(d), a, s[i], b, s[j])
				}
			}
		}
	})
}

// P9.7: under a delta and under its inverse.
func TestThereAndBack(t *testing.T) {
	deltas(func(d []api.Piece) {
		to, _ := places(d)
		in := len(to)
		inverse, e := apply.Invert(strings.Repeat("a", in), d...)
		if e != api.OK {
			t.Fatalf("Invert%s: %d", showDelta(d), e)
		}
		l := every(in)
		for i, back := range shiftedAll(t, shiftedAll(t, l, d), inverse) {
			was := l[i]
			var beyond, stays bool
			if was.Gravity == api.Left {
				beyond = back.At > was.At
				stays = was.At == 0 || to[was.At-1] >= 0
			} else {
				beyond = back.At < was.At
				stays = was.At == in || to[was.At] >= 0
			}
			if beyond || (back.At == was.At) != stays {
				t.Fatalf("%s: %v, there and back, is %v", showDelta(d), was, back)
			}
		}
	})
}

// pairs calls f with all very short deltas that follow one another, and with some long ones.
func pairs(f func(a, b []api.Piece)) {
	second := map[int][][]api.Piece{}
	for _, b := range all(3) {
		in, _ := lengths(b)
		second[in] = append(second[in], b)
	}
	for _, a := range all(3) {
		_, middle := lengths(a)
		for _, b := range second[middle] {
			f(a, b)
		}
	}
	r := rand.New(rand.NewSource(6))
	for range 100 {
		a := randomDelta(r, r.Intn(60))
		_, middle := lengths(a)
		f(a, randomDelta(r, middle))
	}
}

// P9.8: under a composition and step by step. Both are the same for some marks and not for others.
func TestStepByStep(t *testing.T) {
	var same, less, more int
	pairs(func(a, b []api.Piece) {
		ab, e := compose.Compose(a, b)
		if e != api.OK {
			t.Fatalf("Compose(%s, %s): %d", showDelta(a), showDelta(b), e)
		}
		in, _ := lengths(a)
		l := every(in)
		once, twice := shiftedAll(t, l, ab), shiftedAll(t, shiftedAll(t, l, a), b)
		for i, m := range l {
			x, y := once[i].At, twice[i].At
			switch {
			case x == y:
				same++
			case m.Gravity == api.Left && x < y:
				less++
			case m.Gravity == api.Right && x > y:
				more++
			default:
				t.Fatalf("%s, %s: %v moves to %d under both, to %d step by step", showDelta(a), showDelta(b), m, x, y)
			}
		}
	})
	if same == 0 || less == 0 || more == 0 {
		t.Errorf("%d marks moved to the same position, %d to a lesser and %d to a greater one; want some of each", same, less, more)
	}
}

// R3: arguments stay as they are, what is beyond their length is not read, and results are new memory; R6: so they stay the same.
func TestMemory(t *testing.T) {
	beyond, piece := api.Mark{ID: 77, At: -7, Gravity: 9}, api.Piece{Kind: 77, N: -7, Text: "beyond"}
	whole := append(slices.Clone(example), beyond, beyond)
	l, before := whole[:3], slices.Clone(whole)
	pieces := list(retain(3), insert("ab"), piece)
	d, was := pieces[:2], slices.Clone(pieces)
	a, b, c := example[0], example[1], example[2]
	for range 2 {
		for i, x := range []struct{ got, want []api.Mark }{
			{set(t, l, left(5, 7)), marks(a, left(5, 7), c)}, {set(t, l, left(6, 7)), marks(a, b, left(6, 7), c)}, {set(t, l, left(10, 7)), marks(a, b, c, left(10, 7))}, {set(t, l, left(1, 7)), marks(left(1, 7), b, c)}, {set(t, l, b), example},
			{set(t, whole[:0], a), marks(a)},
			{dropped(t, l, 1), marks(b, c)}, {dropped(t, l, 5), marks(a, c)}, {dropped(t, l, 9), marks(a, b)}, {dropped(t, l[:1], 1), nil},
			{shifted(t, l, d), marks(a, right(5, 5), c)}, {shifted(t, l, list(retain(3))), example}, {shifted(t, l[:0], d), nil},
			{mark.Between(l, 0, 3), marks(c, a, b)}, {mark.Between(l, 3, 3), marks(a, b)}, {mark.Between(l[:2], 0, 3), marks(a, b)}, {mark.Between(l, 1, 2), nil}, {mark.Between(whole[:2], -9, 9), marks(a, b)},
		} {
			if !slices.Equal(x.got, x.want) {
				t.Errorf("result %d: %s; want %s", i, show(x.got), show(x.want))
			}
			// Each result is spoiled, before all are made again.
			for j := range x.got[:cap(x.got)] {
				x.got[:cap(x.got)][j] = beyond
			}
		}
		isCheck(t, 3, l, api.OK)
		isFind(t, l, 77, api.Mark{}, false)
		isFind(t, l, 9, c, true)
		if !slices.Equal(whole, before) || !slices.Equal(pieces, was) {
			t.Fatalf("the arguments are now %s, %s", show(whole), showDelta(pieces))
		}
	}
}

// R3: results share no memory with each other.
func TestShared(t *testing.T) {
	for _, f := range []func() []api.Mark{
		func() []api.Mark { return set(t, example, left(5, 7)) },
		func() []api.Mark { return set(t, example, left(6, 7)) },
		func() []api.Mark { return dropped(t, example, 5) },
		func() []api.Mark { return shifted(t, example, list(retain(3))) },
		func() []api.Mark { return mark.Between(example, 0, 3) },
	} {
		x, y := f(), f()
		want := slices.Clone(y)
		for i := range x {
			x[i] = api.Mark{ID: 77}
		}
		if !slices.Equal(y, want) {
			t.Errorf("%s became %s", show(want), show(y))
		}
	}
}
