package plan

import (
	"slices"

	"quarto/api"
	"quarto/arena"
	"quarto/chunk"
)

// The plans of this file are valid, and what it returns may share memory with them.

// build returns the plan of a string of at most MaxText bytes.
func build(s string) api.Tree {
	level := leaves(chunk.Chunks(s)...)
	for len(level) > 1 {
		// No error: there are fewer nodes than bytes.
		sizes, _ := chunk.Even(len(level), api.MaxKids)
		var above []api.Tree
		for _, n := range sizes {
			above = append(above, group(level[:n]...))
			level = level[n:]
		}
		level = above
	}
	return group(level...)
}

// leaves returns new leaves with these texts.
func leaves(texts ...string) []api.Tree {
	var l []api.Tree
	for _, text := range texts {
		l = append(l, api.Tree{Text: text})
	}
	return l
}

// group returns one plan of plans of the same height.
func group(kids ...api.Tree) api.Tree {
	switch len(kids) {
	case 0:
		return api.Tree{}
	case 1:
		return kids[0]
	}
	return api.Tree{Height: kids[0].Height + 1, Kids: kids}
}

// split returns the one or two new inner nodes that plans of the same height become.
func split(kids ...api.Tree) []api.Tree {
	if len(kids) <= api.MaxKids {
		return []api.Tree{group(kids...)}
	}
	half := (len(kids) + 1) / 2
	return []api.Tree{group(kids[:half]...), group(kids[half:]...)}
}

// merge returns the one or two plans that two plans, neither of them empty, become.
func merge(a *arena.Arena, x, y api.Tree) ([]api.Tree, api.Errno) {
	switch {
	case x.Height > y.Height:
		return mergeLast(a, x, y)
	case x.Height < y.Height:
		return mergeFirst(a, x, y)
	}
	return mergeEqual(a, x, y)
}

// mergeLast merges a plan with a lower one behind it.
func mergeLast(a *arena.Arena, x, y api.Tree) ([]api.Tree, api.Errno) {
	higher, e := open(a, x)
	if e != api.OK {
		return nil, e
	}
	last := len(higher.Kids) - 1
	merged, e := merge(a, higher.Kids[last], y)
	if e != api.OK {
		return nil, e
	}
	return split(slices.Concat(higher.Kids[:last], merged)...), api.OK
}

// mergeFirst merges a plan with a lower one before it.
func mergeFirst(a *arena.Arena, x, y api.Tree) ([]api.Tree, api.Errno) {
	higher, e := open(a, y)
	if e != api.OK {
		return nil, e
	}
	merged, e := merge(a, x, higher.Kids[0])
	if e != api.OK {
		return nil, e
	}
	return split(slices.Concat(merged, higher.Kids[1:])...), api.OK
}

// mergeEqual merges two plans of the same height.
func mergeEqual(a *arena.Arena, x, y api.Tree) ([]api.Tree, api.Errno) {
	left, e := open(a, x)
	if e != api.OK {
		return nil, e
	}
	right, e := open(a, y)
	if e != api.OK {
		return nil, e
	}
	if x.Height > 0 && len(left.Kids)+len(right.Kids) > api.MaxKids {
		return []api.Tree{x, y}, api.OK
	}
	if x.Height > 0 {
		return split(slices.Concat(left.Kids, right.Kids)...), api.OK
	}
	texts, e := chunk.Join(left.Text, right.Text)
	if e == api.OK && texts[0] == left.Text {
		// Join left them as they were: so they are not new.
		return []api.Tree{x, y}, api.OK
	}
	return leaves(texts...), e
}

// concat returns the plan of a concatenation.
func concat(a *arena.Arena, x, y api.Tree) (api.Tree, api.Errno) {
	if kindOf(x) == empty {
		return y, api.OK
	}
	if kindOf(y) == empty {
		return x, api.OK
	}
	merged, e := merge(a, x, y)
	return group(merged...), e
}

// cut returns the plans before and after an offset from 0 to the bytes of t.
func cut(a *arena.Arena, t api.Tree, at int) (left, right api.Tree, e api.Errno) {
	switch at {
	case 0:
		return api.Tree{}, t, api.OK
	case bytesOf(t):
		return t, api.Tree{}, api.OK
	}
	opened, e := open(a, t)
	if e != api.OK {
		return api.Tree{}, api.Tree{}, e
	}
	if t.Height > 0 {
		return cutKids(a, opened.Kids, at)
	}
	before, after, e := chunk.Cut(opened.Text, at)
	return api.Tree{Text: before}, api.Tree{Text: after}, e
}

// cutKids returns the plans before and after an offset within the children of a node.
func cutKids(a *arena.Arena, kids []api.Tree, at int) (left, right api.Tree, e api.Errno) {
	i := 0
	for at >= bytesOf(kids[i]) {
		at -= bytesOf(kids[i])
		i++
	}
	if at == 0 {
		return group(kids[:i]...), group(kids[i:]...), api.OK
	}
	l, r, e := cut(a, kids[i], at)
	if e != api.OK {
		return api.Tree{}, api.Tree{}, e
	}
	left, e = concat(a, group(kids[:i]...), l)
	if e != api.OK {
		return api.Tree{}, api.Tree{}, e
	}
	right, e = concat(a, r, group(kids[i+1:]...))
	if e != api.OK {
		return api.Tree{}, api.Tree{}, e
	}
	return left, right, api.OK
}

// replace returns the plan in which s is in the place of the n bytes from at on.
func replace(a *arena.Arena, t api.Tree, at, n int, s string) (api.Tree, api.Errno) {
	left, rest, e := cut(a, t, at)
	if e != api.OK {
		return api.Tree{}, e
	}
	_, right, e := cut(a, rest, n)
	if e != api.OK {
		return api.Tree{}, e
	}
	left, e = concat(a, left, build(s))
	if e != api.OK {
		return api.Tree{}, e
	}
	return concat(a, left, right)
}
