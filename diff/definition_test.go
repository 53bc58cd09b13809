package diff_test

import (
	"fmt"
	"math/rand"
	"slices"
	"strings"
	"testing"

	"quarto/api"
	"quarto/apply"
	"quarto/delta"
	"quarto/diff"
)

// This file has what the tests share: strings of all sorts, and the definitions of the chapter.

func retain(n int) api.Piece          { return api.Piece{Kind: api.Retain, N: n} }
func remove(n int) api.Piece          { return api.Piece{Kind: api.Delete, N: n} }
func insert(s string) api.Piece       { return api.Piece{Kind: api.Insert, Text: s} }
func list(d ...api.Piece) []api.Piece { return d }

// times returns n times the same pieces.
func times(n int, d ...api.Piece) []api.Piece { return slices.Repeat(d, n) }

// chain returns the concatenation of sequences of pieces, as new memory.
func chain(l ...[]api.Piece) []api.Piece { return slices.Concat(l...) }

const (
	full = api.MaxDelta
	most = 1024 // lines
)

// words returns each string of at most n of some parts.
func words(n int, parts ...string) []string {
	l := []string{""}
	for from := 0; n > 0; n-- {
		longest := l[from:]
		from = len(l)
		for _, s := range longest {
			for _, part := range parts {
				l = append(l, s+part)
			}
		}
	}
	return l
}

// bytes calls f with all pairs of short strings, most of which are not valid UTF-8, of some alphabets.
func bytes(f func(a, b string)) {
	for _, l := range [][]string{
		words(4, "a", "\x80", "\xc3"), words(6, "a", "b"), words(5, "\x80", "\x81"), words(3, "a", "\xc3\xa9", "\xc3\xa8", "\xe3\x82\xa9", "\xa9"),
	} {
		for _, a := range l {
			for _, b := range l {
				f(a, b)
			}
		}
	}
}

// texts calls f with all pairs of short strings of a few lines: empty ones, longer ones, ones that are not valid UTF-8, and last ones with and without a line feed.
func texts(f func(a, b string)) {
	for _, l := range [][]string{
		words(4, "a", "\n"), words(3, "a", "b", "\n"), words(3, "\n", "a\n", "b\n", "abc\n", "a"), words(2, "\n", "\n\n", "a\n", "\x80\n", "\xc3", "\xa9\n"),
	} {
		for _, a := range l {
			for _, b := range l {
				f(a, b)
			}
		}
	}
}

// random returns a string of n lines, of which many are the same; the last one may have no line feed.
func random(r *rand.Rand, n int) string {
	few := []string{"\n", "a\n", "b\n", "ab\n", "ba\n", "a longer line\n", "a much longer line than the others\n", "\xff\x80\n", "\xe2\x82\xac\n"}
	s := ""
	for range n {
		s += few[r.Intn(len(few))]
	}
	if r.Intn(2) == 0 {
		s = strings.TrimSuffix(s, "\n")
	}
	return s
}

// show prints the beginning of some deltas.
func show(l ...[]api.Piece) string {
	s := ""
	for _, d := range l {
		s += fmt.Sprintf("(%d: %.100q)", len(d), fmt.Sprint(d[:min(len(d), 8)]))
	}
	return s[:min(len(s), 400)]
}

// boundary is the definition of S1, for an offset from 0 to the length.
func boundary(s string, at int) bool {
	return at == len(s) || s[at] < 128 || s[at] > 191
}

// common is the definition of what Common returns.
func common(a, b string) (prefix, suffix int) {
	for p := range min(len(a), len(b)) + 1 {
		if a[:p] == b[:p] && boundary(a, p) && boundary(b, p) {
			prefix = p
		}
	}
	for k := range min(len(a), len(b)) - prefix + 1 {
		if a[len(a)-k:] == b[len(b)-k:] && boundary(a, len(a)-k) && boundary(b, len(b)-k) {
			suffix = k
		}
	}
	return prefix, suffix
}

// between is the definition of what Between returns.
func between(a, b string) []api.Piece {
	p, k := common(a, b)
	text, n := b[p:len(b)-k], len(a)-p-k
	if text == "" && n == 0 {
		p, k = len(a), 0 // one Retain
	}
	d := list()
	if p > 0 {
		d = append(d, retain(p))
	}
	if text != "" {
		d = append(d, insert(text))
	}
	if n > 0 {
		d = append(d, remove(n))
	}
	if k > 0 {
		d = append(d, retain(k))
	}
	return d
}

// linesOf is the definition of the lines of a string.
func linesOf(s string) []string {
	l := strings.SplitAfter(s, "\n")
	if l[len(l)-1] == "" {
		l = l[:len(l)-1]
	}
	return l
}

// cut reports whether an offset lies between two lines, at the beginning, or at the end.
func cut(s string, at int) bool {
	return at == 0 || at == len(s) || s[at-1] == '\n'
}

// byLines is the definition of a delta that goes by lines from a to b.
func byLines(a, b string, d []api.Piece) bool {
	i, j := 0, 0
	for _, p := range d {
		kept := p.Text
		if p.N > len(a)-i {
			return false
		}
		if p.Kind == api.Retain {
			kept = a[i : i+p.N]
		}
		if !strings.HasPrefix(b[j:], kept) {
			return false
		}
		i, j = i+p.N, j+len(kept)
		if !cut(a, i) || !cut(b, j) {
			return false
		}
	}
	return i == len(a) && j == len(b)
}

// search returns the least cost of the deltas that go by lines from a to b, all of which it tries, with pieces of any numbers of lines.
func search(a, b string) int {
	least := len(a) + len(b)
	var from func(i, j, cost int)
	from = func(i, j, cost int) {
		if i == len(a) && j == len(b) {
			least = min(least, cost)
		}
		for m := i + 1; m <= len(a); m++ {
			if !cut(a, m) {
				continue
			}
			from(m, j, cost+m-i)
			if n := j + m - i; n <= len(b) && cut(b, n) && a[i:m] == b[j:n] {
				from(m, n, cost)
			}
		}
		for n := j + 1; n <= len(b); n++ {
			if cut(b, n) {
				from(i, n, cost+n-j)
			}
		}
	}
	from(0, 0, 0)
	return least
}

// choose returns the least cost as well: it tries all choices of lines of a to keep.
func choose(a, b string) int {
	x, least := linesOf(a), len(a)+len(b)
	for chosen := range 1 << len(x) {
		cost, rest, fits := len(a)+len(b), linesOf(b), true
		for i, line := range x {
			if chosen>>i&1 == 0 || !fits {
				continue
			}
			at := slices.Index(rest, line)
			if fits = at >= 0; fits {
				rest, cost = rest[at+1:], cost-2*len(line)
			}
		}
		if fits {
			least = min(least, cost)
		}
	}
	return least
}

// compute returns the least cost as well, for long strings: what is kept at most of the first lines of a and of b, line by line of a.
func compute(a, b string) int {
	y := linesOf(b)
	kept := make([]int, len(y)+1)
	for _, line := range linesOf(a) {
		before := slices.Clone(kept)
		for j := range y {
			kept[j+1] = max(before[j+1], kept[j])
			if line == y[j] {
				kept[j+1] = max(kept[j+1], before[j]+len(line))
			}
		}
	}
	return len(a) + len(b) - 2*kept[len(y)]
}

// cost returns the cost of a delta.
func cost(t *testing.T, d []api.Piece) int {
	t.Helper()
	n, e := diff.Cost(d...)
	if e != api.OK {
		t.Fatalf("Cost%s: %d", show(d), e)
	}
	return n
}

// replaced returns the delta of Between.
func replaced(t *testing.T, a, b string) []api.Piece {
	t.Helper()
	d, e := diff.Between(a, b)
	if e != api.OK {
		t.Fatalf("Between(%.50q, %.50q): %d", a, b, e)
	}
	return d
}

// lined returns the delta of Lines, and checks that it is in normal form and goes by lines.
func lined(t *testing.T, a, b string) []api.Piece {
	t.Helper()
	d, e := diff.Lines(a, b)
	if e != api.OK || !delta.Normal(d...) || !byLines(a, b, d) {
		t.Fatalf("Lines(%.50q, %.50q): %s, %d", a, b, show(d), e)
	}
	return d
}

// applied returns what d makes of s.
func applied(t *testing.T, s string, d []api.Piece) string {
	t.Helper()
	r, e := apply.Apply(s, d...)
	if e != api.OK {
		t.Fatalf("Apply(%.50q, %s): %d", s, show(d), e)
	}
	return r
}

// identity returns the delta that keeps n bytes.
func identity(t *testing.T, n int) []api.Piece {
	t.Helper()
	d, e := delta.Identity(n)
	if e != api.OK {
		t.Fatalf("Identity(%d): %d", n, e)
	}
	return d
}
