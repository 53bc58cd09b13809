package seek_test

import (
	"math/rand"
	"slices"
	"strings"
	"testing"

	"quarto/api"
	"quarto/measure"
	"quarto/rope"
	"quarto/seek"
)

// variety are ropes of several sizes and shapes.
func variety(w *world) []*known {
	w.t.Helper()
	var l []*known
	for i, n := range []int{0, 1, 7, 8, 15, 16, 17, 33, 64, 65, 100, 257} {
		for _, text := range texts(n) {
			l = append(l, w.makes(text))
			if n > 0 {
				l = append(l, w.writes(grouped(leavesOf(text, func() int { return 8 }), func() int { return 2 + i%3 }), text))
			}
		}
	}
	return l
}

// P17.2 and P17.3: what package measure returns for the text, errors included, and what it tells of boundaries: an offset is one if the rune after those before it begins there, or the text ends there.
func TestAsMeasure(t *testing.T) {
	w := start(t, 5000)
	l := variety(w)
	w.still()
	for _, k := range l {
		for _, n := range k.numbers() {
			r := w.asks(k.root, n, 0)
			for i, f := range []func(s string, n int) (int, api.Errno){measure.Rune, measure.RunesBefore, measure.Line, measure.LineOf} {
				got := []int{r.rune, r.runesBefore, r.line, r.lineOf}[i]
				if want, e := f(k.text, n); got != want || r.errors[2+i] != e {
					t.Fatalf("the function %d, %d in %q: %d, %d; want %d, %d", 2+i, n, k.text, got, r.errors[2+i], want, e)
				}
			}
			before, e := measure.RunesBefore(k.text, n)
			next, _ := measure.Rune(k.text, before)
			if r.errors[6] != e || r.is != (e == api.OK && next == n) {
				t.Fatalf("Boundary(%d) of %q: %v, %d", n, k.text, r.is, r.errors[6])
			}
		}
	}
	w.ends()
}

// P17.4: the path has Height + 1 live handles of the rope, each but the first a child of the one before; the byte at rest is that of Byte, and the leaves of all bytes in turn are the text.
func TestPath(t *testing.T) {
	w := start(t, 5000)
	l := variety(w)
	for _, k := range l {
		nodes, e := rope.Nodes(w.a, k.root)
		if e != api.OK {
			t.Fatalf("Nodes: %d", e)
		}
		var text strings.Builder
		for at := range len(k.text) {
			s, rest, path, e := seek.Leaf(w.a, k.root, at)
			b, e2 := seek.Byte(w.a, k.root, at)
			if e != api.OK || e2 != api.OK || len(path) != k.root.Height+1 || path[0] != k.root.At || rest >= len(s) || s[rest] != b {
				t.Fatalf("%d in %q: %q, %d, %s, %d; %d, %d", at, k.text, s, rest, names(path), e, b, e2)
			}
			text.WriteByte(b)
			for i, h := range path {
				x, e := w.a.Get(h)
				if e != api.OK || !slices.Contains(nodes, h) || x.Height != k.root.Height-i || x.Height == 0 && x.Text != s {
					t.Fatalf("%d in %q: the path %s has %v, %d", at, k.text, names(path), x, e)
				}
				if x.Height > 0 && !slices.ContainsFunc(x.Kids, func(kid api.Kid) bool { return kid.At == path[i+1] }) {
					t.Fatalf("%d in %q: the path %s has %v, of which the next one is no child", at, k.text, names(path), x)
				}
			}
		}
		if text.String() != k.text {
			t.Fatalf("the bytes %q; want %q", text.String(), k.text)
		}
	}
}

// assembled is a rope of a text that was put together in a random order, with text in between that was removed again.
func (w *world) assembled(text string, r *rand.Rand) *known {
	w.t.Helper()
	k := w.knownAs(api.Root{}, "")
	for from := 0; from < len(text); {
		n := min(1+r.Intn(25), len(text)-from)
		// Behind what is there; then a part of it is taken out and put back.
		k = w.changed(k, len(k.text), 0, text[from:from+n])
		from += n
		at := r.Intn(len(k.text) + 1)
		cut := r.Intn(min(len(k.text)-at, 20) + 1)
		kept := k.text[at : at+cut]
		k = w.changed(k, at, cut, "\n\x80junk"[r.Intn(6):])
		k = w.changed(k, at, len(k.text)+cut-from, kept)
	}
	if k.text != text {
		w.t.Fatalf("%q; want %q", k.text, text)
	}
	return k
}

// P17.5: ropes of the same text, whatever their shapes, in one arena or in two, answer the same, but for Leaf.
func TestSameText(t *testing.T) {
	shapes := map[int]bool{}
	for seed := range 40 {
		r := rand.New(rand.NewSource(int64(1750 + seed)))
		text := texts(1 + 7*seed)[seed%9]
		w, other := start(t, 16384), start(t, 300)
		l := []*known{w.makes(text), w.assembled(text, r), w.assembled(text, r)}
		for _, count := range []int{2, 3, 4} {
			l = append(l, w.writes(grouped(leavesOf(text, func() int { return 8 + r.Intn(9) }), func() int { return count }), text))
		}
		o := other.makes(text)
		w.still()
		other.still()
		for _, n := range o.numbers() {
			want := other.asks(o.root, n, 0)
			want.text, want.rest, want.path = "", 0, ""
			for _, k := range l {
				shapes[k.root.Height-o.root.Height] = true
				got := w.asks(k.root, n, 0)
				got.text, got.rest, got.path = "", 0, ""
				if got != want {
					t.Fatalf("%d in %q, in two shapes: %+v and %+v", n, text, got, want)
				}
			}
		}
		w.ends()
		other.ends()
	}
	if len(shapes) < 3 {
		t.Fatalf("the heights are all alike: %v", shapes)
	}
}

// P17.6: RunesBefore(Rune(n)) is n where Rune is less than the bytes, and LineOf(Line(n)) is n.
func TestThereAndBack(t *testing.T) {
	w := start(t, 5000)
	for _, k := range variety(w) {
		runes, lines := 0, 0
		for _, n := range k.numbers() {
			if at, e := seek.Rune(w.a, k.root, n); e == api.OK && at < len(k.text) {
				back, e := seek.RunesBefore(w.a, k.root, at)
				is, e2 := seek.Boundary(w.a, k.root, at)
				if back != n || e != api.OK || !is || e2 != api.OK {
					t.Fatalf("Rune(%d) of %q is %d, of which RunesBefore is %d, %d, and Boundary %v, %d", n, k.text, at, back, e, is, e2)
				}
				runes++
			}
			if at, e := seek.Line(w.a, k.root, n); e == api.OK {
				if back, e := seek.LineOf(w.a, k.root, at); back != n || e != api.OK {
					t.Fatalf("Line(%d) of %q is %d, of which LineOf is %d, %d", n, k.text, at, back, e)
				}
				lines++
			}
		}
		if runes != k.root.M.Runes || lines != k.root.M.Lines+1 {
			t.Fatalf("%d runes and %d lines of %q", runes, lines, k.text)
		}
	}
}

// R6: the same question has the same answer, whatever was asked in between, and after other ropes were written and freed.
func TestAgain(t *testing.T) {
	w := start(t, 6000)
	l := variety(w)
	var first []answer
	ask := func() (answers []answer) {
		w.still()
		for _, k := range l {
			for n := -1; n <= len(k.text)+1; n += 1 + len(k.text)/10 {
				answers = append(answers, w.asks(k.root, n, 0))
			}
		}
		w.ends()
		return answers
	}
	first = ask()
	slices.Reverse(l)
	ask()
	slices.Reverse(l)
	w.frees(w.makes(texts(400)[0]))
	w.makes(texts(500)[1])
	if !slices.Equal(ask(), first) {
		t.Fatalf("the answers became others")
	}
}

// R6: two ropes of one arena that are asked in turns.
func TestTurns(t *testing.T) {
	w := start(t, 200)
	x, y := w.makes(texts(120)[0]), w.makes(texts(130)[2])
	w.still()
	for n := -1; n < 134; n++ {
		w.holds(x, n)
		w.holds(y, n, 133-n)
	}
	w.ends()
}
