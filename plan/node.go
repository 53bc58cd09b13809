package plan

import (
	"iter"

	"quarto/api"
	"quarto/arena"
	"quarto/node"
)

// kind is what a node of a plan is.
type kind int

const (
	none kind = iota
	empty
	kept
	newLeaf
	newInner
)

// mostNodes is more than a valid plan has: unless it is a single node, each of its nodes without Kids has at least MinLeaf bytes, and there are fewer nodes with Kids than without.
const mostNodes = 2 * api.MaxText / api.MinLeaf

// kindOf returns the kind of a node.
func kindOf(t api.Tree) kind {
	isNew := t.Old == 0 && t.M == (api.Measure{})
	switch {
	case t.Old != 0 && t.Text == "" && len(t.Kids) == 0:
		return kept
	case isNew && t.Height == 0 && t.Text == "" && len(t.Kids) == 0:
		return empty
	case isNew && t.Height == 0 && within(len(t.Text), 1, api.MaxLeaf) && len(t.Kids) == 0:
		return newLeaf
	case isNew && within(t.Height, 1, api.MaxHeight) && t.Text == "" && within(len(t.Kids), api.MinKids, api.MaxKids):
		return newInner
	}
	return none
}

// within reports whether n is from least to most.
func within(n, least, most int) bool {
	return least <= n && n <= most
}

// checkAll returns the first error of Check.
func checkAll(a *arena.Arena, l ...api.Tree) api.Errno {
	for _, t := range l {
		if e := Check(a, t); e != api.OK {
			return e
		}
	}
	return api.OK
}

// checkNode returns an error unless t is of one of the kinds that a node may have, and what it keeps is as it says.
func checkNode(a *arena.Arena, t api.Tree) api.Errno {
	switch kindOf(t) {
	case none, empty:
		return api.ErrShape
	case kept:
		return checkKept(a, t)
	}
	return api.OK
}

// checkKept returns an error unless the node that t keeps is live, and has the height and the measure that t states.
func checkKept(a *arena.Arena, t api.Tree) api.Errno {
	x, e := a.Get(t.Old)
	if e != api.OK {
		return e
	}
	if m, _ := node.Measure(x); x.Height != t.Height || m != t.M {
		return api.ErrShape
	}
	return api.OK
}

// open returns a node with its text or its children, as if it were new. The children of a kept node are kept.
func open(a *arena.Arena, t api.Tree) (api.Tree, api.Errno) {
	if t.Old == 0 {
		return t, api.OK
	}
	x, e := a.Get(t.Old)
	opened := api.Tree{Height: x.Height, Text: x.Text}
	for _, kid := range x.Kids {
		opened.Kids = append(opened.Kids, api.Tree{Old: kid.At, Height: x.Height - 1, M: kid.M})
	}
	return opened, e
}

// bytesOf returns the bytes of plans.
func bytesOf(l ...api.Tree) int {
	n := 0
	for _, t := range l {
		// The kind of a node tells which of the three is not 0.
		n += t.M.Bytes + len(t.Text) + bytesOf(t.Kids...)
	}
	return n
}

// nodes goes through the nodes of a plan in preorder, but not through those below the kept ones.
func nodes(t api.Tree) iter.Seq[api.Tree] {
	return func(yield func(api.Tree) bool) {
		// The plan need not be valid: it could contain itself, and have no end.
		left := mostNodes
		var walk func(t api.Tree) bool
		walk = func(t api.Tree) bool {
			left--
			if left < 0 || !yield(t) {
				return false
			}
			for _, kid := range t.Kids {
				if !walk(kid) {
					return false
				}
			}
			return true
		}
		walk(t)
	}
}

// unseen returns the handles that a plan contains, in preorder, without those that are seen already, and marks them as seen.
func unseen(a *arena.Arena, t api.Tree, seen map[api.Handle]bool) ([]api.Handle, api.Errno) {
	var l []api.Handle
	var walk func(t api.Tree) api.Errno
	walk = func(t api.Tree) api.Errno {
		if seen[t.Old] {
			// So is everything below it.
			return api.OK
		}
		if t.Old != 0 {
			seen[t.Old] = true
			l = append(l, t.Old)
		}
		x, e := open(a, t)
		for _, kid := range x.Kids {
			if e := walk(kid); e != api.OK {
				return e
			}
		}
		return e
	}
	if e := walk(t); e != api.OK {
		return nil, e
	}
	return l, api.OK
}

// copied returns a copy of a plan, no part of which shares memory with another one.
func copied(t api.Tree) api.Tree {
	t.Kids = allCopied(t.Kids)
	return t
}

// allCopied returns copies of plans.
func allCopied(l []api.Tree) []api.Tree {
	var copies []api.Tree
	for _, t := range l {
		copies = append(copies, copied(t))
	}
	return copies
}
