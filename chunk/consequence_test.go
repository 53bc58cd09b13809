package chunk_test

import (
	"slices"
	"strings"
	"testing"

	"quarto/api"
	"quarto/chunk"
)

// fair checks that sizes are those of as few groups as can be for n elements, most in each, and that they differ by at most one and do not increase.
func fair(t *testing.T, sizes []int, n, most int) {
	t.Helper()
	sum := 0
	for i, size := range sizes {
		sum += size
		if size < 1 || size > most || size > sizes[0] || size < sizes[0]-1 || i > 0 && size > sizes[i-1] {
			t.Fatalf("%d elements, at most %d in a group: the group %d of %s", n, most, i, show(sizes))
		}
	}
	if sum != n {
		t.Fatalf("%d elements, at most %d in a group: the groups have %d", n, most, sum)
	}
	// With one group less, these would not hold all elements. A product could wrap around.
	if less := len(sizes) - 1; less > 0 && (n-1)/less < most {
		t.Fatalf("%d elements, at most %d in a group: %d groups are more than needed", n, most, less+1)
	}
}

// P14.5: the sizes that Even returns.
func TestEvenFair(t *testing.T) {
	numbers := ordinary()
	for n := range 120 {
		numbers = append(numbers, n)
	}
	for _, n := range numbers {
		l := mosts(n)
		for most := 1; most <= 130; most++ {
			l = append(l, most)
		}
		for _, most := range l {
			sizes, e := chunk.Even(n, most)
			if e != api.OK {
				t.Fatalf("Even(%d, %d): %d", n, most, e)
			}
			fair(t, sizes, n, most)
			if most >= 2 && n > most && slices.Min(sizes) < most/2 {
				t.Fatalf("Even(%d, %d): %d is less than half", n, most, slices.Min(sizes))
			}
		}
	}
}

// P14.5: the chunks make the string, and no one of them is short if the string is not.
func TestChunksFair(t *testing.T) {
	lengths := []int{1000, mostEven - 1, mostEven, mostEven + 1, 3 * mostEven, 1<<20 + 7}
	for n := range 700 {
		lengths = append(lengths, n)
	}
	for _, n := range lengths {
		for _, s := range strange(n) {
			var sizes []int
			parts := chunk.Chunks(s)
			for _, part := range parts {
				sizes = append(sizes, len(part))
				if n >= shortest && len(part) < shortest {
					t.Fatalf("Chunks of %d bytes: %s is short", n, show(part))
				}
			}
			fair(t, sizes, n, longest)
			if strings.Join(parts, "") != s {
				t.Fatalf("Chunks(%s), %d bytes: %s", show(s), n, show(parts))
			}
		}
	}
}

// P14.5, P14.1 and P14.2: the lengths of the chunks are the sizes that Even returns.
func TestChunksEven(t *testing.T) {
	for _, n := range ordinary() {
		want, e := chunk.Even(n, longest)
		var sizes []int
		for _, part := range chunk.Chunks(strings.Repeat("x", n)) {
			sizes = append(sizes, len(part))
		}
		if e != api.OK || !slices.Equal(sizes, want) {
			t.Fatalf("Chunks of %d bytes: %s; Even: %s, %d", n, show(sizes), show(want), e)
		}
	}
}

// P14.6: Join keeps the bytes, and two texts are neither short nor too long.
func TestJoinKeeps(t *testing.T) {
	for n := 1; n <= longest; n++ {
		for m := 1; m <= longest; m++ {
			for _, s := range strange(n + m) {
				l, e := chunk.Join(s[:n], s[n:])
				if e != api.OK || len(l) < 1 || len(l) > 2 || strings.Join(l, "") != s {
					t.Fatalf("Join(%s, %s): %s, %d", show(s[:n]), show(s[n:]), show(l), e)
				}
				for _, text := range l {
					if len(text) > longest || len(l) == 2 && len(text) < shortest {
						t.Fatalf("Join(%s, %s): %s", show(s[:n]), show(s[n:]), show(l))
					}
				}
			}
		}
	}
}

// P14.6: Join makes again what Cut divided, unless a part is empty.
func TestJoinCut(t *testing.T) {
	for n := 1; n <= longest; n++ {
		for _, s := range strange(n) {
			for at := range n + 1 {
				left, right, e := chunk.Cut(s, at)
				if e != api.OK || left+right != s || len(left) != at {
					t.Fatalf("Cut(%s, %d): %s, %s, %d", show(s), at, show(left), show(right), e)
				}
				if at == 0 || at == n {
					isJoin(t, left, right, nil, api.ErrArg)
				} else {
					isJoin(t, left, right, []string{s}, api.OK)
				}
			}
		}
	}
}

// spoil writes over all of a list, also beyond its length.
func spoil[E any](l []E, with E) {
	for i := range l[:cap(l)] {
		l[:cap(l)][i] = with
	}
}

// apart checks that the lists that f makes are new memory (R3): what is written over one of them changes no other one, nor what f makes later (R6).
func apart[E comparable](t *testing.T, call string, f func() []E, with E) {
	t.Helper()
	want := slices.Clone(f())
	for range 3 {
		got, other := f(), f()
		if !slices.Equal(got, want) || !slices.Equal(other, want) {
			t.Fatalf("%s: %v and %v; want %v", call, got, other, want)
		}
		spoil(got, with)
		if !slices.Equal(other, want) {
			t.Fatalf("%s: another result became %v", call, other)
		}
		spoil(other, with)
	}
}

// R3, R6: arguments stay as they are, results share no memory, and the same call has the same result.
func TestMemory(t *testing.T) {
	for _, n := range []int{0, 1, 2, 16, 17, 33, 1000, 65536} {
		for _, most := range []int{1, 2, 4, 16, 65536} {
			apart(t, "Even", func() []int { l, _ := chunk.Even(n, most); return l }, 77)
		}
	}
	for _, n := range []int{0, 1, 8, 16, 17, 33, 65537} {
		for _, s := range strange(n) {
			before := strings.Clone(s)
			apart(t, "Chunks", func() []string { return chunk.Chunks(s) }, "spoiled")
			if s != before {
				t.Fatalf("Chunks changed %s", show(before))
			}
		}
	}
	const s = "0123456789ABCDEFGHIJKLMNOPQRSTUVWXYZ"
	for n := 1; n <= longest; n++ {
		for m := 1; m <= longest; m++ {
			apart(t, "Join", func() []string { l, _ := chunk.Join(s[:n], s[n:n+m]); return l }, "spoiled")
		}
	}
}
