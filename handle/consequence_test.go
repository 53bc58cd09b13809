package handle_test

import (
	"math/rand"
	"slices"
	"testing"

	"quarto/api"
	"quarto/handle"
)

// P10.5: a handle is made again from its slot and its generation, and from its text form.
func TestAgain(t *testing.T) {
	for _, h := range handles() {
		slot, e := handle.Slot(h)
		gen, f := handle.Gen(h)
		if e != api.OK || f != api.OK {
			t.Fatalf("Slot and Gen of %d: errors %d, %d", h, e, f)
		}
		isMake(t, slot, gen, h, api.OK)
		s, e := handle.Text(h)
		if e != api.OK {
			t.Fatalf("Text(%d): %d", h, e)
		}
		isParse(t, s, h, api.OK)
	}
}

// P10.5: other slots or generations make other handles, and have other text forms.
func TestDetermined(t *testing.T) {
	type pair struct {
		slot int
		gen  uint64
	}
	byHandle, byText := map[api.Handle]pair{}, map[string]pair{}
	for _, slot := range slots() {
		for _, gen := range gens() {
			h, e := handle.Make(slot, gen)
			s, f := handle.Text(h)
			if e != api.OK || f != api.OK {
				t.Fatalf("Make(%d, %d), and its Text: errors %d, %d", slot, gen, e, f)
			}
			p := pair{slot, gen}
			if q, has := byHandle[h]; has && q != p {
				t.Fatalf("%v and %v make %d", p, q, h)
			}
			if q, has := byText[s]; has && q != p {
				t.Fatalf("%v and %v have the text %s", p, q, s)
			}
			byHandle[h], byText[s] = p, p
		}
	}
}

// P10.5: the handles of a slot increase with the generation, and Next goes to the least one of them that is greater.
func TestIncrease(t *testing.T) {
	increasing := gens()
	slices.Sort(increasing)
	increasing = slices.Compact(increasing)
	for _, slot := range slots() {
		last := api.Handle(0)
		for _, gen := range increasing {
			h, e := handle.Make(slot, gen)
			if e != api.OK || h <= last {
				t.Fatalf("Make(%d, %d): %d, %d; want more than %d", slot, gen, h, e, last)
			}
			if gen < lastGen {
				isMake(t, slot, gen+1, h+65536, api.OK)
				isNext(t, h, h+65536, api.OK)
			}
			last = h
		}
	}
}

// P10.6: Sort of what is sorted, and of the same numbers in other orders and other numbers of times.
func TestSortAgain(t *testing.T) {
	r := rand.New(rand.NewSource(6))
	for range 200 {
		l := numbers(r, r.Intn(100))
		want := handle.Sort(l...)
		isSort(t, want, want)
		for range 5 {
			m := slices.Concat(l, l[:r.Intn(len(l)+1)], want)
			r.Shuffle(len(m), func(i, j int) { m[i], m[j] = m[j], m[i] })
			isSort(t, m, want)
			isSort(t, m[len(m)/2:], sorted(m[len(m)/2:]))
		}
		slices.Reverse(l)
		isSort(t, l, want)
	}
}

// R3: what is beyond the length of l is neither read nor changed, and results are new memory; R6: so they stay the same.
func TestMemory(t *testing.T) {
	const beyond = api.Handle(77)
	for _, x := range []struct{ l, want []api.Handle }{
		{[]api.Handle{131075, 65536, 65539, 65536}, []api.Handle{65536, 65539, 131075}},
		{[]api.Handle{65536, 65539, 131075}, []api.Handle{65536, 65539, 131075}},
		{[]api.Handle{2, 1}, []api.Handle{1, 2}},
		{[]api.Handle{5}, []api.Handle{5}},
		{[]api.Handle{}, nil},
	} {
		whole := append(slices.Clone(x.l), beyond, beyond, 1)
		before, l := slices.Clone(whole), whole[:len(x.l)]
		for range 3 {
			got, other := handle.Sort(l...), handle.Sort(l...)
			if !slices.Equal(got, x.want) {
				t.Fatalf("Sort of %v: %v; want %v", x.l, got, x.want)
			}
			// All of the result is spoiled, before the others are looked at and it is made again.
			for i := range got[:cap(got)] {
				got[:cap(got)][i] = beyond
			}
			if !slices.Equal(other, x.want) || !slices.Equal(whole, before) {
				t.Fatalf("Sort of %v: another result became %v, and the argument %v", x.l, other, whole)
			}
		}
	}
}
