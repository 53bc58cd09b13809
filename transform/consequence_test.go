package transform_test

import (
	"fmt"
	"slices"
	"testing"

	"quarto/api"
	"quarto/transform"
)

// moved returns what Transform makes of b.
func moved(t *testing.T, a, b []api.Piece, first bool) []api.Piece {
	t.Helper()
	d, e := transform.Transform(a, b, first)
	if e != api.OK {
		t.Fatalf("Transform(%s, %t): %d", show(a, b), first, e)
	}
	return d
}

// both returns what Merge makes of two deltas.
func both(t *testing.T, a, b []api.Piece) []api.Piece {
	t.Helper()
	d, e := transform.Merge(a, b)
	if e != api.OK {
		t.Fatalf("Merge%s: %d", show(a, b), e)
	}
	return d
}

// rebased returns what Rebase makes of d.
func rebased(t *testing.T, d []api.Piece, base ...[]api.Piece) []api.Piece {
	t.Helper()
	r, e := transform.Rebase(d, base...)
	if e != api.OK {
		t.Fatalf("Rebase(%s, %s): %d", show(d), show(base...), e)
	}
	return r
}

// P7.6.
func TestConvergence(t *testing.T) {
	pairs(func(a, b []api.Piece) {
		a2, b2, e := transform.Pair(a, b)
		if e != api.OK {
			t.Fatalf("Pair%s: %d", show(a, b), e)
		}
		merge := both(t, a, b)
		same(t, "a and b2 of "+show(a, b), composed(t, a, b2), merge)
		same(t, "b and a2 of "+show(a, b), composed(t, b, a2), merge)
		x, y, z := edited(a), edited(b), edited(merge)
		for p, keeps := range z.keeps {
			if keeps != (x.keeps[p] && y.keeps[p]) {
				t.Fatalf("Merge%s: %s; keeps byte %d: %t", show(a, b), show(merge), p, keeps)
			}
		}
	})
}

// P7.7: Identity is neutral, and has no effect.
func TestNeutral(t *testing.T) {
	for _, d := range all(few1, 5) {
		n, out := lengths(d)
		none, after, want := identity(t, n), identity(t, out), normalized(t, d)
		for _, first := range []bool{true, false} {
			becomes(t, none, d, first, want)
			becomes(t, d, none, first, after)
		}
		pair(t, none, d, after, want, api.OK)
		pair(t, d, none, want, after, api.OK)
		merges(t, none, d, want, api.OK)
		merges(t, d, none, want, api.OK)
		rebases(t, d, [][]api.Piece{none, none}, want, api.OK)
		rebases(t, none, [][]api.Piece{d, after}, after, api.OK)
		disjoint(t, none, d, true, api.OK)
		disjoint(t, d, none, true, api.OK)
	}
}

// P7.7: equivalent deltas are transformed in the same way.
func TestEquivalent(t *testing.T) {
	pairs(func(a, b []api.Piece) {
		x, y := normalized(t, a), normalized(t, b)
		a2, b2, e := transform.Pair(a, b)
		merge, back := both(t, a, b), moved(t, a, b, false)
		is, _ := transform.Disjoint(a, b)
		for _, z := range [][2][]api.Piece{{x, b}, {a, y}, {x, y}} {
			becomes(t, z[0], z[1], true, b2)
			becomes(t, z[0], z[1], false, back)
			pair(t, z[0], z[1], a2, b2, e)
			merges(t, z[0], z[1], merge, api.OK)
			rebases(t, z[1], [][]api.Piece{z[0]}, b2, api.OK)
			disjoint(t, z[0], z[1], is, api.OK)
		}
	})
}

// P7.8.
func TestDisjointDeltas(t *testing.T) {
	count := 0
	pairs(func(a, b []api.Piece) {
		if is, _ := transform.Disjoint(a, b); !is {
			return
		}
		count++
		same(t, "either text of "+show(a, b)+" first", moved(t, a, b, true), moved(t, a, b, false))
		merge := both(t, a, b)
		same(t, "either one of "+show(a, b)+" first", both(t, b, a), merge)
		n, out := lengths(merge)
		_, out1 := lengths(a)
		_, out2 := lengths(b)
		if out-n != out1-n+out2-n {
			t.Fatalf("Merge%s: %s; the changes of length are %d, %d, and %d", show(a, b), show(merge), out1-n, out2-n, out-n)
		}
	})
	if count == 0 {
		t.Fatal("no disjoint deltas")
	}
}

// does reports whether a delta has a piece of a kind.
func does(d []api.Piece, kind uint8) bool {
	return slices.ContainsFunc(d, func(p api.Piece) bool { return p.Kind == kind })
}

// P7.9: one call or two; and the composition, under the chapter's condition.
func TestRebaseParts(t *testing.T) {
	count := 0
	triples(func(d, x, y []api.Piece) {
		want := rebased(t, d, x, y)
		same(t, "Rebase of "+show(d, x, y)+" in two calls", rebased(t, rebased(t, d, x), y), want)
		if !does(d, api.Insert) || !does(d, api.Delete) && (!does(x, api.Insert) || !does(y, api.Delete)) {
			count++
			same(t, "Rebase of "+show(d, x, y)+" against the composition", rebased(t, d, composed(t, x, y)), want)
		}
	})
	if count == 0 {
		t.Fatal("no triples under the condition")
	}
}

// P7.9: the chapter's example of deltas for which the composition makes a difference.
func TestRebaseComposition(t *testing.T) {
	d, x, y := list(remove(1), retain(1), insert("t")), list(retain(1), remove(1)), list(retain(1), insert("u"))
	same(t, "against both", rebased(t, d, x, y), list(insert("t"), remove(1), retain(1)))
	same(t, "against the composition", rebased(t, d, composed(t, x, y)), list(remove(1), retain(1), insert("t")))
}

// R3: arguments stay as they are, beyond their length too, and results are new memory.
func TestMemory(t *testing.T) {
	beyond := api.Piece{Kind: 77, N: -7, Text: "beyond"}
	first := list(retain(1), insert("ab"), remove(2), retain(3), beyond)
	second := list(retain(2), insert("c"), remove(1), retain(3), beyond)
	deltas := [][]api.Piece{first[:4], second[:4], list(retain(6)), list(beyond)}
	a, b, keep := deltas[0], deltas[1], deltas[2]
	before1, before2 := slices.Clone(first), slices.Clone(second)
	plain1, plain2 := slices.Clone(a), slices.Clone(b)
	a2, b2 := list(retain(1), insert("ab"), remove(1), retain(4)), list(retain(3), insert("c"), retain(3))
	for range 2 {
		x, y, e := transform.Pair(a, b)
		if e != api.OK {
			t.Fatalf("Pair%s: %d", show(a, b), e)
		}
		// Each result is kept until all are made, and then spoiled, before all are made again.
		for i, r := range []struct{ got, want []api.Piece }{
			{x, a2}, {y, b2},
			{moved(t, a, b, true), b2}, {moved(t, a, b, false), b2}, {moved(t, a, a, true), list(retain(3), insert("ab"), retain(3))},
			{moved(t, keep, a, true), plain1}, {moved(t, keep, a, false), plain1}, {moved(t, keep, keep, true), list(retain(6))},
			{both(t, keep, b), plain2}, {both(t, a, keep), plain1},
			{rebased(t, a), plain1}, {rebased(t, a, keep), plain1}, {rebased(t, b, deltas[:1]...), b2},
		} {
			same(t, fmt.Sprint("result ", i), r.got, r.want)
			for j := range r.got[:cap(r.got)] {
				r.got[:cap(r.got)][j] = beyond
			}
		}
		disjoint(t, a, b, false, api.OK)
		disjoint(t, a, keep, true, api.OK)
	}
	same(t, "the first argument", first, before1)
	same(t, "the second argument", second, before2)
	same(t, "what keeps all", keep, list(retain(6)))
	same(t, "the list of arguments", deltas[3], list(beyond))
}
