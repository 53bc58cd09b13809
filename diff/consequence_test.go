package diff_test

import (
	"fmt"
	"math/rand"
	"slices"
	"testing"

	"quarto/api"
	"quarto/diff"
	"quarto/runes"
)

// P8.5: both lead from a to b, and are the identity if these are the same.
func TestResult(t *testing.T) {
	check := func(a, b string) {
		for _, d := range [][]api.Piece{replaced(t, a, b), lined(t, a, b)} {
			if got := applied(t, a, d); got != b {
				t.Fatalf("%q by %s: %q; want %q", a, show(d), got, b)
			}
			if want := identity(t, len(a)); a == b && !slices.Equal(d, want) {
				t.Fatalf("%q to itself: %s; want %s", a, show(d), show(want))
			}
		}
	}
	bytes(check)
	texts(check)
	r := rand.New(rand.NewSource(5))
	for range 300 {
		a, b := random(r, r.Intn(60)), random(r, r.Intn(60))
		check(a, b)
		check(a, a)
	}
}

// P8.6: the cost of Lines is at most the sum of the lengths, the same in both directions, and not less by a string in between.
func TestLeastCost(t *testing.T) {
	r := rand.New(rand.NewSource(6))
	l := words(3, "\n", "a\n", "bcd\n", "a")
	for range 15 {
		l = append(l, random(r, r.Intn(30)))
	}
	least := make([][]int, len(l))
	for i, a := range l {
		for _, b := range l {
			n := cost(t, lined(t, a, b))
			if n > len(a)+len(b) {
				t.Fatalf("from %q to %q: %d, which is more than all", a, b, n)
			}
			least[i] = append(least[i], n)
		}
	}
	for i, a := range l {
		for j, b := range l {
			if least[i][j] != least[j][i] {
				t.Fatalf("from %q to %q: %d, and %d back", a, b, least[i][j], least[j][i])
			}
			for k, c := range l {
				if least[i][j]+least[j][k] < least[i][k] {
					t.Fatalf("from %q by %q to %q: %d and %d, but %d at once", a, b, c, least[i][j], least[j][k], least[i][k])
				}
			}
		}
	}
}

// parts returns what a delta keeps, removes and inserts, piece by piece.
func parts(a string, d []api.Piece) []string {
	var l []string
	for _, p := range d {
		l = append(l, a[:p.N]+p.Text)
		a = a[p.N:]
	}
	return l
}

// P8.7: of valid strings, Between keeps, removes and inserts valid ones. The runes share first bytes and last bytes.
func TestValidStrings(t *testing.T) {
	l := words(2, "a", "\xc3\xa9", "\xc3\xa8", "\xc2\xa9", "\xe2\x82\xac", "\xe2\x82\xa9", "\xe3\x82\xac", "\xe2\x83\xac", "\xf0\x9f\x98\x80", "\xf0\x9f\x98\xa9", "\xf0\x9f\x82\xac")
	l = append(l, words(5, "\xc3\xa9", "\xc3\xa8")...)
	for _, a := range l {
		for _, b := range l {
			for _, part := range parts(a, replaced(t, a, b)) {
				if !runes.Valid(part) {
					t.Fatalf("Between(%q, %q) has %q", a, b, part)
				}
			}
		}
	}
}

// R3: the argument stays as it is, what is beyond its length is not read, and results are new memory; R6: so they stay the same.
func TestMemory(t *testing.T) {
	beyond := api.Piece{Kind: 77, N: -7, Text: "beyond"}
	whole := list(retain(1), insert("ab"), remove(2), remove(1), beyond)
	before := slices.Clone(whole)
	a, b := "a\nb\nc\n", "a\nx\nc\n"
	want := list(retain(2), insert("x\n"), remove(2), retain(2))
	for range 2 {
		if n := cost(t, whole[:4]); n != 5 {
			t.Errorf("Cost: %d; want 5", n)
		}
		for i, x := range []struct{ got, want []api.Piece }{
			{replaced(t, a, b), list(retain(2), insert("x"), remove(1), retain(3))}, {lined(t, a, b), want}, {lined(t, a, b), want},
			{replaced(t, a, a), list(retain(6))}, {lined(t, a, a), list(retain(6))}, {replaced(t, "", ""), nil}, {lined(t, "", ""), nil},
		} {
			if !slices.Equal(x.got, x.want) {
				t.Errorf("%s: %s; want %s", fmt.Sprint("result ", i), show(x.got), show(x.want))
			}
			// Each result is spoiled, before all are made again.
			for j := range x.got[:cap(x.got)] {
				x.got[:cap(x.got)][j] = beyond
			}
		}
	}
	if !slices.Equal(whole, before) {
		t.Errorf("the argument is now %s", show(whole))
	}
	if _, e := diff.Cost(whole...); e != api.ErrArg {
		t.Errorf("Cost of all: %d; want ErrArg", e)
	}
}
