package seek

import (
	"quarto/api"
	"quarto/arena"
	"quarto/node"
)

// choice returns the child of an inner node that holds the unit (a byte, a rune or a line feed) with the number n, and the number of this unit in that child.
type choice func(x api.Node, n int) (i, rest int, e api.Errno)

// place is where a search ends.
type place struct {
	text string       // of the leaf
	rest int          // the number, in this leaf, of the unit that was looked for
	path []api.Handle // of the nodes from the root to the leaf
}

// open returns the node of a root, or the error of the check of the root. The empty rope is opened as a leaf without text.
func open(a *arena.Arena, root api.Root) (api.Node, api.Errno) {
	if a == nil {
		return api.Node{}, api.ErrNil
	}
	if root == (api.Root{}) {
		return api.Node{}, api.OK
	}
	if root.At == 0 {
		return api.Node{}, api.ErrArg
	}
	x, e := a.Get(root.At)
	if e != api.OK {
		return api.Node{}, e
	}
	if m, _ := node.Measure(x); x.Height != root.Height || m != root.M {
		return api.Node{}, api.ErrShape
	}
	return x, api.OK
}

// find goes down to the leaf that holds the unit with the number n. What is before the leaf is passed child by child: pass is given the measures.
func find(a *arena.Arena, root api.Root, n int, choose choice, pass func(m api.Measure)) (place, api.Errno) {
	x, e := open(a, root)
	if e != api.OK {
		return place{}, e
	}
	p := place{rest: n, path: []api.Handle{root.At}}
	for x.Height > 0 {
		i, rest, e := choose(x, p.rest)
		if e != api.OK {
			return place{}, e
		}
		for _, kid := range x.Kids[:i] {
			pass(kid.M)
		}
		at := x.Kids[i].At
		p.rest, p.path = rest, append(p.path, at)
		if x, e = a.Get(at); e != api.OK {
			return place{}, e
		}
	}
	p.text = x.Text
	return p, api.OK
}

// convert does with a rope what inLeaf, a function of package measure, does with a string: choose leads to the leaf that has the answer, and of tells how much what is before this leaf adds to it.
func convert(a *arena.Arena, root api.Root, n int, choose choice, inLeaf func(s string, n int) (int, api.Errno), of func(m api.Measure) int) (int, api.Errno) {
	before := 0
	p, e := find(a, root, n, choose, func(m api.Measure) { before += of(m) })
	if e != api.OK {
		return 0, e
	}
	answer, e := inLeaf(p.text, p.rest)
	if e != api.OK {
		return 0, e
	}
	return before + answer, api.OK
}

// known returns an answer that needs no search, unless the root has an error.
func known[T any](a *arena.Arena, root api.Root, answer T) (T, api.Errno) {
	if _, e := open(a, root); e != api.OK {
		var none T
		return none, e
	}
	return answer, api.OK
}
