package diff

import (
	"math"

	"quarto/api"
)

// never is the cost of what cannot be done.
const never = math.MaxInt

// least is the index of the least costs, beside the kinds, of which none is 0.
const least = 0

// table has the costs of the shortest deltas between two sequences: table[kind][i][j] is the cost of those that lead from the elements from i on to those of the other sequence from j on and do this kind of thing first, and table[least][i][j] the least one of these.
type table [][][]int

// shortest returns what a delta of the least cost from a to b does: one kind for each element that it keeps, inserts or removes. Inserting or removing an element costs its size.
func shortest[E comparable](a, b []E, size func(E) int) []uint8 {
	t := costs(a, b, size)
	var kinds []uint8
	for i, j := 0, 0; i < len(a) || j < len(b); {
		kind := t.first(i, j)
		kinds = append(kinds, kind)
		if kind != api.Insert {
			i++
		}
		if kind != api.Delete {
			j++
		}
	}
	return kinds
}

// costs returns the table of two sequences, which is filled from their ends on.
func costs[E comparable](a, b []E, size func(E) int) table {
	t := newTable(len(a)+1, len(b)+1)
	for i := len(a); i >= 0; i-- {
		for j := len(b); j >= 0; j-- {
			if i == len(a) && j == len(b) {
				continue // nothing is left to do, which costs nothing
			}
			keep, insert, remove := never, never, never
			if i < len(a) && j < len(b) && a[i] == b[j] {
				keep = t[least][i+1][j+1]
			}
			if j < len(b) {
				insert = size(b[j]) + t[least][i][j+1]
			}
			if i < len(a) {
				remove = size(a[i]) + t[least][i+1][j]
			}
			t[api.Retain][i][j], t[api.Insert][i][j], t[api.Delete][i][j] = keep, insert, remove
			t[least][i][j] = min(keep, insert, remove)
		}
	}
	return t
}

// newTable returns a table of zeros, with so many rows and columns for each kind.
func newTable(rows, columns int) table {
	const kinds = int(api.Delete) + 1 // Delete is the greatest kind
	return cut(cut(make([]int, kinds*rows*columns), columns), rows)
}

// cut cuts a slice into parts of the same length, none of which can grow into the one behind it.
func cut[E any](long []E, length int) [][]E {
	var parts [][]E
	for at := 0; at < len(long); at += length {
		parts = append(parts, long[at:at+length:at+length])
	}
	return parts
}

// first returns what a shortest delta does first, unless nothing is left to do.
func (t table) first(i, j int) uint8 {
	for _, kind := range []uint8{api.Retain, api.Insert} {
		if t[kind][i][j] == t[least][i][j] {
			return kind
		}
	}
	return api.Delete
}
