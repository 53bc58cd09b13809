package seek_test

import (
	"math"
	"math/rand"
	"slices"
	"strings"
	"testing"

	"quarto/api"
	"quarto/arena"
	"quarto/measure"
	"quarto/rope"
	"quarto/seek"
)

// h is a handle by its text form.
func h(slot, gen int) api.Handle { return api.Handle(gen<<16 + slot) }

// The examples of the chapter.
func TestExamples(t *testing.T) {
	a, _ := arena.New(8, 4)
	root, _ := rope.New(a, "a\xc3\xb1\nbcdefghijklmn")
	if want := (api.Root{At: h(2, 1), Height: 1, M: api.Measure{Bytes: 17, Runes: 16, Lines: 1}}); root != want {
		t.Fatalf("New: %v; want %v", root, want)
	}
	for _, c := range []struct {
		at, rest int
		text     string
		path     []api.Handle
		e        api.Errno
	}{
		{9, 0, "ghijklmn", []api.Handle{h(2, 1), h(1, 1)}, api.OK},
		{8, 8, "a\xc3\xb1\nbcdef", []api.Handle{h(2, 1), h(0, 1)}, api.OK},
		{17, 0, "", nil, api.ErrRange},
		{-1, 0, "", nil, api.ErrRange},
	} {
		text, rest, path, e := seek.Leaf(a, root, c.at)
		if text != c.text || rest != c.rest || !slices.Equal(path, c.path) || e != c.e {
			t.Errorf("Leaf(%d): %q, %d, %s, %d; want %q, %d, %s, %d", c.at, text, rest, names(path), e, c.text, c.rest, names(c.path), c.e)
		}
	}
	for at, want := range map[int]byte{3: 10, 16: 'n'} {
		if b, e := seek.Byte(a, root, at); b != want || e != api.OK {
			t.Errorf("Byte(%d): %d, %d", at, b, e)
		}
	}
	for _, c := range []struct {
		name    string
		f       func(a *arena.Arena, root api.Root, n int) (int, api.Errno)
		n, want int
		e       api.Errno
	}{
		{"Rune", seek.Rune, 1, 1, api.OK}, {"Rune", seek.Rune, 2, 3, api.OK},
		{"RunesBefore", seek.RunesBefore, 3, 2, api.OK}, {"RunesBefore", seek.RunesBefore, 17, 16, api.OK},
		{"Line", seek.Line, 1, 4, api.OK}, {"Line", seek.Line, 2, 0, api.ErrRange},
		{"LineOf", seek.LineOf, 3, 0, api.OK}, {"LineOf", seek.LineOf, 4, 1, api.OK},
	} {
		if n, e := c.f(a, root, c.n); n != c.want || e != c.e {
			t.Errorf("%s(%d): %d, %d; want %d, %d", c.name, c.n, n, e, c.want, c.e)
		}
	}
	for _, c := range []struct {
		at   int
		want bool
		e    api.Errno
	}{{2, false, api.OK}, {17, true, api.OK}, {18, false, api.ErrRange}} {
		if is, e := seek.Boundary(a, root, c.at); is != c.want || e != c.e {
			t.Errorf("Boundary(%d): %v, %d", c.at, is, e)
		}
	}
}

// R5: without an arena there is ErrNil, whatever else is wrong, and nothing beside it.
func TestNil(t *testing.T) {
	var none *arena.Arena
	for _, root := range []api.Root{{}, {Height: 1}, {M: api.Measure{Bytes: 1}}, {At: h(0, 1)}, {At: 1}, {At: h(0, 1), M: api.Measure{Bytes: 9, Runes: 8, Lines: 1}}, {At: h(2, 1), Height: 1, M: api.Measure{Bytes: 17, Runes: 16, Lines: 1}}} {
		for _, n := range slices.Concat(extremes, []int{-1, 0, 1, 8, 9, 16, 17}) {
			text, rest, path, e := seek.Leaf(none, root, n)
			b, e1 := seek.Byte(none, root, n)
			r, e2 := seek.Rune(none, root, n)
			rs, e3 := seek.RunesBefore(none, root, n)
			l, e4 := seek.Line(none, root, n)
			ls, e5 := seek.LineOf(none, root, n)
			is, e6 := seek.Boundary(none, root, n)
			got := answer{text, rest, names(path), b, r, rs, l, ls, is, [7]api.Errno{e, e1, e2, e3, e4, e5, e6}}
			if want := (answer{errors: all(api.ErrNil)}); got != want {
				t.Fatalf("%d in %v: %+v", n, root, got)
			}
		}
	}
}

// P17.1 to P17.3: the zero Root, whose text is empty: no byte, no rune, and one line.
func TestZeroRoot(t *testing.T) {
	for _, slots := range []int{1, 5} {
		w := start(t, slots)
		w.still()
		k := w.knownAs(api.Root{}, "")
		w.holds(k, k.numbers()...)
		got := w.asks(api.Root{}, 0, 0)
		if want := (answer{is: true, errors: [7]api.Errno{api.ErrRange, api.ErrRange}}); got != want {
			t.Fatalf("0 in the zero Root: %+v; want %+v", got, want)
		}
		w.ends()
	}
}

// The check of the root, which comes before ErrRange: At is 0 in a root that is not the zero Root, and that is no access.
func TestRootWithoutNode(t *testing.T) {
	w := start(t, 40)
	w.makes(strings.Repeat("abc\n", 20))
	w.still()
	for _, by := range []int{1, -1, 2, 16, 17, math.MaxInt, math.MinInt} {
		for _, root := range []api.Root{{Height: by}, {M: api.Measure{Bytes: by}}, {M: api.Measure{Runes: by}}, {M: api.Measure{Lines: by}}, {Height: by, M: api.Measure{Bytes: by, Runes: by, Lines: by}}} {
			w.refuses(root, api.ErrArg, 0)
		}
	}
	w.ends()
}

// The check of the root: At is not live. One stale access is counted, and this comes before a wrong Height or M.
func TestStaleRoot(t *testing.T) {
	w := start(t, 40)
	k := w.makes(strings.Repeat("a\xc3\xb1\n", 30))
	small := w.makes("abc\n")
	gone, lost := w.makes("\n"+strings.Repeat("x", 40)), w.makes("freed")
	w.frees(gone)
	w.frees(lost)
	// In the slots of gone there are other nodes now.
	again := w.makes("\n" + strings.Repeat("x", 40))
	w.still()
	for _, x := range []*known{gone, lost} {
		w.refuses(x.root, api.ErrStale, 1)
		w.refuses(api.Root{At: x.root.At}, api.ErrStale, 1)
		w.refuses(api.Root{At: x.root.At, Height: -1, M: api.Measure{Bytes: 3, Runes: 2, Lines: 1}}, api.ErrStale, 1)
	}
	for _, at := range []api.Handle{1, 39, 65535, h(39, 1), h(40, 1), h(16384, 1), h(65535, 1), k.root.At + 65536, small.root.At + 65536, small.root.At + 1<<48, 1 << 48, 1 << 63, math.MaxUint64} {
		w.refuses(api.Root{At: at}, api.ErrStale, 1)
		w.refuses(api.Root{At: at, Height: k.root.Height, M: k.root.M}, api.ErrStale, 1)
		w.refuses(api.Root{At: at, M: small.root.M}, api.ErrStale, 1)
	}
	for _, x := range []*known{k, small, again} {
		w.holds(x, x.numbers()...)
	}
	w.ends()
}

// The check of the root: Height or M are not those of its node, for roots of all heights.
func TestWrongRoot(t *testing.T) {
	w := start(t, 60)
	for _, k := range []*known{w.makes("x"), w.makes("a\xc3\xb1\nb"), w.makes("\xf0\x9f\x99\x82\n\nabcdefghijk"), w.makes(strings.Repeat("a\xc3\xb1\n", 30)), w.makes(strings.Repeat("\n\x80", 100))} {
		w.still()
		w.holds(k, k.numbers()...)
		for _, by := range []int{-1, 1, 3, 16, -k.root.M.Bytes, 65536, math.MinInt, math.MaxInt} {
			for _, change := range []func(r *api.Root){
				func(r *api.Root) { r.Height += by },
				func(r *api.Root) { r.M.Bytes += by },
				func(r *api.Root) { r.M.Runes += by },
				func(r *api.Root) { r.M.Lines += by },
				func(r *api.Root) { r.M.Bytes += by; r.M.Runes += by },
				func(r *api.Root) { r.Height += by; r.M = api.Measure{Bytes: by, Runes: by, Lines: by} },
			} {
				r := k.root
				change(&r)
				w.refuses(r, api.ErrShape, 0)
			}
		}
		w.refuses(api.Root{At: k.root.At}, api.ErrShape, 0)
		for _, kid := range w.kids(k.root) {
			w.refuses(api.Root{At: kid.At, Height: k.root.Height, M: k.root.M}, api.ErrShape, 0)
			w.refuses(api.Root{At: k.root.At, Height: k.root.Height - 1, M: kid.M}, api.ErrShape, 0)
		}
		w.ends()
	}
}

// kids are the children of a root.
func (w *world) kids(root api.Root) []api.Kid {
	x, _ := w.a.Get(root.At)
	return x.Kids
}

// P17.1 to P17.3: ropes of one leaf: all texts of at most 4 bytes over an alphabet of bytes of all sorts, and longer ones.
func TestOneLeaf(t *testing.T) {
	w := start(t, 3)
	for n := range 5 {
		for i := range pow(5, n) {
			k := w.makes(word("a\n\x80\xe2\xff", n, i))
			w.still()
			w.holds(k, k.numbers()...)
			w.renews(k)
		}
	}
	for n := 5; n <= api.MaxLeaf; n++ {
		for _, text := range texts(n) {
			k := w.makes(text)
			w.still()
			w.holds(k, k.numbers()...)
			w.renews(k)
		}
	}
}

// renews takes an empty arena instead of one that has nothing but a rope that is not needed any more.
func (w *world) renews(k *known) {
	w.t.Helper()
	w.ends()
	w.a = start(w.t, w.stats.Slots).a
}

// pow is the power of a number.
func pow(n, exponent int) int {
	p := 1
	for range exponent {
		p *= n
	}
	return p
}

// word is the i-th word of n letters.
func word(letters string, n, i int) string {
	var b []byte
	for range n {
		b = append(b, letters[i%len(letters)])
		i /= len(letters)
	}
	return string(b)
}

// P17.1 to P17.3: two leaves, and the bytes on both sides of their border over an alphabet of bytes of all sorts; the same at the beginning and the end.
func TestBorder(t *testing.T) {
	for i := range pow(6, 4) {
		border := word("a\n\x80\xe2\xf0\x9f", 4, i)
		for _, text := range []string{"abcdef" + border + "ghijkl", "\n\x80cd\n\x82" + border + "\x82\n\x80\x80\n\x80", border[2:] + "\xbfbcde\x80\xf0\x9f\x99\x82fg" + border[:2]} {
			w := start(t, 3)
			k := w.writes(innerOf(leafOf(text[:8]), leafOf(text[8:])), text)
			w.still()
			w.holds(k, k.numbers()...)
			w.ends()
		}
	}
}

// P17.1 to P17.3: a rune of one to four bytes at each offset of a rope of four leaves, and so at each place of each border, with line feeds around it and without.
func TestRuneAcrossLeaves(t *testing.T) {
	for _, r := range []string{"a", "\xc3\xb1", "\xe2\x82\xac", "\xf0\x9f\x99\x82", "\n", "\n\n", "\n\xc3\xb1\n", "\n\xe2\x82\xac\n", "\x80", "\x80\x80\x80\x80\x80\x80\x80\x80\x80"} {
		for at := range 33 - len(r) {
			text := strings.Repeat("x", at) + r + strings.Repeat("y", 32-at-len(r))
			w := start(t, 12)
			var l []api.Tree
			for i := range 4 {
				l = append(l, leafOf(text[8*i:8*i+8]))
			}
			flat := w.writes(innerOf(l...), text)
			high := w.writes(innerOf(innerOf(l[0], l[1]), innerOf(l[2], l[3])), text)
			if len(text) != 32 || flat.root.Height != 1 || high.root.Height != 2 {
				t.Fatalf("%q, %v, %v", text, flat.root, high.root)
			}
			w.still()
			w.holds(flat, flat.numbers()...)
			w.holds(high, high.numbers()...)
			w.ends()
		}
	}
}

// P17.1 to P17.3: the ropes that rope.New makes of texts of all sorts and of all lengths up to some levels.
func TestNewRopes(t *testing.T) {
	for n := range 300 {
		w := start(t, 400)
		var l []*known
		for _, text := range texts(n) {
			l = append(l, w.makes(text))
			if n > 70 && len(l) > 3 {
				break
			}
		}
		w.still()
		for _, k := range l {
			w.holds(k, k.numbers()...)
		}
		w.ends()
	}
}

// P17.1 to P17.3: ropes of all shapes: leaves of 8 to 16 bytes, inner nodes of 2 to 4 children, at random and each at its limits.
func TestShapes(t *testing.T) {
	for seed := range 60 {
		r := rand.New(rand.NewSource(int64(seed)))
		size := []func() int{func() int { return 8 }, func() int { return 16 }, func() int { return 8 + r.Intn(9) }}[seed%3]
		count := []func() int{func() int { return 2 }, func() int { return 4 }, func() int { return 2 + r.Intn(3) }}[seed/3%3]
		w := start(t, 200)
		text := texts(60 + 5*seed)[r.Intn(9)]
		k := w.writes(grouped(leavesOf(text, size), count), text)
		w.still()
		w.holds(k, k.numbers()...)
		w.ends()
	}
}

// P17.1 to P17.3: each node of a rope is the root of a rope.
func TestEachNode(t *testing.T) {
	w := start(t, 100)
	w.makes(texts(300)[2])
	w.makes(texts(200)[0])
	w.still()
	checked := 0
	for _, at := range w.a.Handles() {
		x, _ := w.a.Get(at)
		root := api.Root{At: at, Height: x.Height}
		var text strings.Builder
		for _, l := range w.leaves(root) {
			text.WriteString(l.text)
		}
		root.M = measure.Of(text.String())
		k := w.knownAs(root, text.String())
		w.holds(k, k.numbers()...)
		checked++
	}
	if checked < 40 {
		t.Fatalf("there are %d nodes", checked)
	}
	w.ends()
}

// P17.1 to P17.3: nodes that occur several times in a rope.
func TestRepeated(t *testing.T) {
	w := start(t, 20)
	x, y := w.writes(leafOf("a\xc3\xb1\nbcdef"), "a\xc3\xb1\nbcdef"), w.writes(leafOf("\x82\xacgh\n\nij\xe2"), "\x82\xacgh\n\nij\xe2")
	xy := w.writes(innerOf(x.keeps(), y.keeps(), x.keeps()), x.text+y.text+x.text)
	yx := w.writes(innerOf(y.keeps(), x.keeps(), y.keeps(), y.keeps()), y.text+x.text+y.text+y.text)
	top := w.writes(innerOf(xy.keeps(), yx.keeps(), yx.keeps(), xy.keeps()), xy.text+yx.text+yx.text+xy.text)
	high := w.writes(innerOf(top.keeps(), top.keeps()), top.text+top.text)
	w.still()
	for _, k := range []*known{x, y, xy, yx, top, high} {
		w.holds(k, k.numbers()...)
	}
	w.ends()
}

// P17.1 to P17.3: ropes of 65,536 bytes, made by New and as high as can be, at many offsets, and at all around some.
func TestLongest(t *testing.T) {
	for i, text := range texts(api.MaxText)[:7] {
		w := start(t, api.MaxSlots)
		var k *known
		switch i % 2 {
		case 0:
			k = w.makes(text)
		case 1:
			k = w.writes(grouped(leavesOf(text, func() int { return 8 }), func() int { return 2 }), text)
		}
		if k.root.Height != []int{6, 13}[i%2] {
			t.Fatalf("a rope of height %d", k.root.Height)
		}
		w.still()
		l := slices.Clone(extremes)
		for n := -40; n < api.MaxText+40; n++ {
			if n%97 == 0 || (n+20)%8192 < 40 {
				l = append(l, n)
			}
		}
		for _, n := range []int{len(k.starts), len(k.begins)} {
			l = append(l, n-2, n-1, n, n+1)
		}
		w.holds(k, l...)
		w.ends()
	}
}

// P17.1 to P17.3: a rope that was changed by plan.Replace is written beside its older versions, with which it shares nodes; all of them answer for their own texts.
func TestVersions(t *testing.T) {
	for seed := range 12 {
		r := rand.New(rand.NewSource(int64(170 + seed)))
		w := start(t, 3000)
		l := []*known{w.makes(texts(20 * seed)[seed%9])}
		for range 25 {
			k := l[len(l)-1]
			if r.Intn(4) == 0 {
				k = l[r.Intn(len(l))]
			}
			at := r.Intn(len(k.text) + 1)
			n := min(r.Intn(30), len(k.text)-at)
			l = append(l, w.changed(k, at, n, texts(r.Intn(40))[r.Intn(9)]))
		}
		w.still()
		for _, k := range l {
			w.holds(k, k.numbers()...)
		}
		w.ends()
	}
}

// P17.1 to P17.3: an older version is freed together with what it shares, or only a rope beside it; what is whole answers as before.
func TestOthersFreed(t *testing.T) {
	w := start(t, 200)
	k, beside := w.makes(texts(150)[2]), w.makes(texts(90)[0])
	newer := w.changed(k, 70, 5, "\n\xe2\x82\xac\n")
	w.frees(beside)
	w.still()
	w.holds(k, k.numbers()...)
	w.holds(newer, newer.numbers()...)
	w.ends()
	another := w.makes(texts(120)[4])
	w.frees(k)
	w.still()
	w.holds(another, another.numbers()...)
	w.refuses(k.root, api.ErrStale, 1)
	w.refuses(beside.root, api.ErrStale, 1)
	w.ends()
}

// S5: a root that passes, of a rope that is not whole: an error, and nothing beside it, or some result; nothing changes but the count of stale accesses.
func TestNotWhole(t *testing.T) {
	for lost := range 21 {
		w := start(t, 40)
		k := w.writes(grouped(leavesOf(texts(100)[2], func() int { return 8 }), func() int { return 2 }), texts(100)[2])
		nodes, _ := rope.Nodes(w.a, k.root)
		if e := w.a.Free(nodes[1+lost%(len(nodes)-1)]); e != api.OK {
			t.Fatalf("Free: %d", e)
		}
		errors := 0
		for _, n := range k.numbers() {
			w.still()
			text, rest, path, e := seek.Leaf(w.a, k.root, n)
			b, e1 := seek.Byte(w.a, k.root, n)
			r, e2 := seek.Rune(w.a, k.root, n)
			rs, e3 := seek.RunesBefore(w.a, k.root, n)
			l, e4 := seek.Line(w.a, k.root, n)
			ls, e5 := seek.LineOf(w.a, k.root, n)
			is, e6 := seek.Boundary(w.a, k.root, n)
			for i, x := range []struct {
				is  bool
				err api.Errno
			}{{text == "" && rest == 0 && len(path) == 0, e}, {b == 0, e1}, {r == 0, e2}, {rs == 0, e3}, {l == 0, e4}, {ls == 0, e5}, {!is, e6}} {
				if x.err != api.OK && !x.is {
					t.Fatalf("%d, the function %d: a result beside the error %d", n, i, x.err)
				}
				if x.err == api.ErrStale {
					errors++
				}
			}
			w.stats.Stale = w.a.Stats().Stale
			w.ends()
		}
		if errors == 0 {
			t.Fatalf("no error without the node %d of %d", lost, len(nodes))
		}
	}
}
