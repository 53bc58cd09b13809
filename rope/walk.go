package rope

import (
	"iter"

	"quarto/api"
	"quarto/arena"
	"quarto/plan"
)

// visit is an access to a node of a rope.
type visit struct {
	at   api.Handle
	node api.Node
	e    api.Errno
}

// visits goes through the nodes of a rope in preorder, each as often as it occurs.
func visits(a *arena.Arena, at api.Handle) iter.Seq[visit] {
	return func(yield func(visit) bool) {
		var walk func(at api.Handle) bool
		walk = func(at api.Handle) bool {
			x, e := a.Get(at)
			if !yield(visit{at: at, node: x, e: e}) {
				return false
			}
			for _, kid := range x.Kids {
				if !walk(kid.At) {
					return false
				}
			}
			return true
		}
		walk(at)
	}
}

// read returns the handles of a rope in preorder, each once, and the texts of its leaves from left to right, each as often as it occurs; or the error of Check.
func read(a *arena.Arena, root api.Root) (handles []api.Handle, leaves []string, e api.Errno) {
	// Keep returns the error of the check of the root.
	if _, e = plan.Keep(a, root); e != api.OK || root == (api.Root{}) {
		return nil, nil, e
	}
	seen := map[api.Handle]bool{}
walk:
	for v := range visits(a, root.At) {
		switch {
		case v.e != api.OK:
			// Left at once, as an access to a further node that is not live would be counted, too.
			handles, leaves, e = nil, nil, v.e
			break walk
		case v.node.Height == 0:
			leaves = append(leaves, v.node.Text)
		}
		if !seen[v.at] {
			seen[v.at] = true
			handles = append(handles, v.at)
		}
	}
	return handles, leaves, e
}
