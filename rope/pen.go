package rope

import (
	"quarto/api"
	"quarto/arena"
	"quarto/node"
	"quarto/plan"
)

// Pen writes a plan node by node.
type Pen struct {
	todo []write  // what is still to be written, the next node first
	root api.Root // of the plan, as soon as nothing is to be written
}

// write writes a node and returns its handle.
type write func() (api.Handle, api.Errno)

// Begin begins to write a plan.
func Begin(a *arena.Arena, t api.Tree) (*Pen, api.Errno) {
	if e := plan.Check(a, t); e != api.OK {
		return nil, e
	}
	if plan.New(t) > a.Stats().Free {
		return nil, api.ErrFull
	}
	p := &Pen{}
	p.intend(a, t, &p.root)
	return p, api.OK
}

// Step writes the next new node, in postorder, and reports whether it was the last one.
func (p *Pen) Step() (h api.Handle, done bool, e api.Errno) {
	if p == nil {
		return 0, false, api.ErrNil
	}
	if p.isDone() {
		return 0, true, api.OK
	}
	h, e = p.todo[0]()
	if e != api.OK {
		return 0, false, e
	}
	// Otherwise the list would keep what is written already.
	p.todo[0] = nil
	p.todo = p.todo[1:]
	return h, p.isDone(), api.OK
}

// Root returns the root that was written.
func (p *Pen) Root() (api.Root, api.Errno) {
	if p == nil {
		return api.Root{}, api.ErrNil
	}
	if !p.isDone() {
		return api.Root{}, api.ErrState
	}
	return p.root, api.OK
}

// isDone reports whether nothing is to be written any more.
func (p *Pen) isDone() bool {
	return len(p.todo) == 0
}

// intend adds what writes the new nodes of a valid plan, in postorder. The root of the plan is stored as soon as it is known: now, or when the last one of these nodes is written.
func (p *Pen) intend(a *arena.Arena, t api.Tree, root *api.Root) {
	isNew := t.Text != "" || len(t.Kids) > 0
	if !isNew {
		*root = api.Root{At: t.Old, Height: t.Height, M: t.M}
		return
	}
	below := make([]api.Root, len(t.Kids))
	for i, kid := range t.Kids {
		p.intend(a, kid, &below[i])
	}
	// Not t itself, whose Kids are the caller's, who may change them before they are written.
	height, text := t.Height, t.Text
	p.todo = append(p.todo, func() (api.Handle, api.Errno) {
		x := api.Node{Height: height, Text: text}
		for _, kid := range below {
			x.Kids = append(x.Kids, api.Kid{At: kid.At, M: kid.M})
		}
		h, e := a.Alloc(x)
		if e != api.OK {
			return 0, e
		}
		m, _ := node.Measure(x)
		*root = api.Root{At: h, Height: height, M: m}
		return h, api.OK
	})
}
