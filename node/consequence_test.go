package node_test

import (
	"math"
	"math/rand"
	"slices"
	"testing"

	"quarto/api"
	"quarto/node"
)

// P12.8: what is encoded is decoded, and nodes are equal if, and only if, their encodings are.
func TestSameEncoding(t *testing.T) {
	l := valids()
	r := rand.New(rand.NewSource(128))
	for range 300 {
		l = append(l, small(r))
	}
	texts := make([]string, len(l))
	for i, x := range l {
		s, e := node.Encode(x)
		if e != api.OK {
			t.Fatalf("Encode(%s): %d", show(x), e)
		}
		y, e := node.Decode(s)
		if !node.Equal(x, y) || e != api.OK {
			t.Fatalf("Decode of the encoding of %s: %s, %d", show(x), show(y), e)
		}
		texts[i] = s
	}
	for i, x := range l {
		for j, y := range l {
			if node.Equal(x, y) != (texts[i] == texts[j]) {
				t.Fatalf("%s and %s: equal is %t, with the encodings %s and %s", show(x), show(y), node.Equal(x, y), show(texts[i]), show(texts[j]))
			}
		}
	}
}

// P12.8: what is decoded is valid, and has exactly the encoding that it was decoded from.
func TestSameString(t *testing.T) {
	is := func(s string) {
		x, e := node.Decode(s)
		if e != api.OK {
			return
		}
		if e := node.Check(x); e != api.OK {
			t.Fatalf("Decode(%s): %s, which Check calls %d", show(s), show(x), e)
		}
		if again, e := node.Encode(x); again != s || e != api.OK {
			t.Fatalf("Encode of what was decoded from %s: %s, %d", show(s), show(again), e)
		}
	}
	for _, s := range samples() {
		for at := range s {
			for b := range 256 {
				is(s[:at] + string([]byte{byte(b)}) + s[at+1:])
			}
			for end := range at {
				is(s[:end] + s[at:])
			}
		}
	}
	r := rand.New(rand.NewSource(1280))
	for range 100000 {
		s := make([]byte, 1+r.Intn(18))
		r.Read(s)
		s[0] = byte(r.Intn(3) / 2)
		is(string(s))
	}
}

// P12.9: the child contains what is looked for, and a greater number never gives a smaller index, nor the same place.
func TestContains(t *testing.T) {
	is := func(x api.Node, f func(x api.Node, n int) (int, int, api.Errno), first int, of count) {
		lastIndex, lastRest := 0, first-1
		for n := first; n < first+of(measured(x)); n++ {
			i, rest, e := f(x, n)
			if e != api.OK || i < 0 || i >= len(x.Kids) || rest < first || rest >= first+of(x.Kids[i].M) {
				t.Fatalf("%s, number %d: %d, %d, %d", show(x), n, i, rest, e)
			}
			if i < lastIndex || i == lastIndex && rest != lastRest+1 || i > lastIndex && rest != first {
				t.Fatalf("%s, number %d: %d, %d behind %d, %d", show(x), n, i, rest, lastIndex, lastRest)
			}
			lastIndex, lastRest = i, rest
		}
	}
	r := rand.New(rand.NewSource(129))
	l := append(fulls(), example())
	for range 1000 {
		l = append(l, small(r))
	}
	for _, x := range l {
		if checked(x) != api.OK {
			continue
		}
		is(x, node.Child, 0, countBytes)
		is(x, node.Rune, 0, countRunes)
		is(x, node.Line, 1, countLines)
	}
}

// R3: writing over the children that Inner was given does not change the node, nor the other way round.
func TestInnerIsNew(t *testing.T) {
	for n := 2; n <= 4; n++ {
		kids := least(1, 6).Kids
		kids[n] = api.Kid{At: math.MaxUint64}
		x, e := node.Inner(1, kids[:n]...)
		y, f := node.Inner(1, kids[:n]...)
		if !same(x, least(1, n)) || !same(y, x) || e != api.OK || f != api.OK {
			t.Fatalf("Inner of %d children: %s, %d, and %s, %d", n, show(x), e, show(y), f)
		}
		if slices.Contains(x.Kids[:cap(x.Kids)], kids[n]) {
			t.Fatalf("Inner of %d children returned one behind them", n)
		}
		x.Kids[0].M.Bytes, x.Kids[n-1].At = 77, 77
		_ = append(x.Kids, api.Kid{At: 78})
		if !slices.Equal(kids[:n], least(1, n).Kids) || kids[n].At != math.MaxUint64 || !same(y, least(1, n)) {
			t.Fatalf("writing over a node of %d children changed what it was made of: %v, or another node: %s", n, kids, show(y))
		}
		kids[0].M.Runes, kids[n-1].M.Lines = 55, 55
		if !same(y, least(1, n)) {
			t.Fatalf("writing over the children changed the node: %s", show(y))
		}
	}
}

// R3: nodes that were decoded share nothing.
func TestDecodedIsNew(t *testing.T) {
	s := encoding(example())
	x, _ := node.Decode(s)
	y, _ := node.Decode(s)
	for i := range x.Kids {
		x.Kids[i] = api.Kid{}
	}
	_ = append(x.Kids, api.Kid{At: 78})
	if !same(y, example()) || s != encoding(example()) {
		t.Fatalf("writing over a node changed another one: %s", show(y))
	}
	isDecode(t, s, example(), api.OK)
}

// R3: arguments stay as they were, and elements behind their end are neither read nor written.
func TestArguments(t *testing.T) {
	for _, x := range all() {
		room := append(slices.Clone(x.Kids), api.Kid{At: math.MaxUint64, M: api.Measure{Bytes: -1, Runes: math.MinInt, Lines: math.MaxInt}}, kid(7, 8, 8, 8))
		before := slices.Clone(room)
		x.Kids = room[:len(x.Kids)]
		isCheck(t, x, checked(x))
		for _, n := range []int{-1, 0, 1, 9, math.MaxInt} {
			isFound(t, x, n)
		}
		if e := checked(x); e == api.OK {
			isEncode(t, x, encoding(x), api.OK)
		} else {
			isEncode(t, x, "", e)
		}
		isEqual(t, x, x, true)
		isEqual(t, x, copied(x), true)
		if !slices.Equal(room, before) {
			t.Fatalf("%v was changed to %v", before, room)
		}
	}
}
