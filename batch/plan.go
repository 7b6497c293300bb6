package batch

import (
	"bytes"
	"sort"

	"rootcellar/api"
	"rootcellar/path"
	"rootcellar/store"
	"rootcellar/walk"
)

// plan is which nodes are to be made for the new tree: each behind those that are its sides, and none that it will not have. So nothing is made in vain, and nothing is changed until all is known.
//
// A part of the new tree is told by a number: 0 is nothing, above 0 it is the handle of a node of the old tree that is shared, below 0 a node of the plan, -1 the first one.
type plan struct {
	store *store.Store
	nodes []planned
}

// planned is a node that is to be made: a leaf of a write, or an inner node with two parts for its sides.
type planned struct {
	kind        api.Kind
	write       api.Write
	depth       int
	left, right int
}

// add puts a node behind those that are planned so far, and tells the number of its part.
func (p *plan) add(n planned) int {
	p.nodes = append(p.nodes, n)
	return -len(p.nodes)
}

// grow tells what stands in the new tree where h, a handle or 0, stands in the old one, at the depth d. The writes are in order, and their keys and those below h have the same first d bits.
func (p *plan) grow(h, d int, l []api.Write) int {
	switch {
	case len(l) == 0:
		return h
	case len(l) == 1 && p.isPlaceOf(h, l[0].Key):
		return p.leaf(h, l[0])
	}
	oldLeft, oldRight := p.fork(h, d)
	zeros, ones := split(l, d)
	left, right := p.grow(oldLeft, d+1, zeros), p.grow(oldRight, d+1, ones)
	if left == oldLeft && right == oldRight {
		return h
	}
	return p.join(d, left, right)
}

// isPlaceOf tells whether at h nothing stands, or the key's own leaf.
func (p *plan) isPlaceOf(h int, key api.Path) bool {
	return h == 0 || p.store.Kind(h) == api.Leaf && p.store.Key(h) == key
}

// leaf tells what a write leaves where nothing stands, or its key's own leaf.
func (p *plan) leaf(h int, w api.Write) int {
	switch {
	case w.Gone:
		return 0
	case h != 0 && bytes.Equal(p.store.Value(h), w.Value):
		return h
	}
	return p.add(planned{kind: api.Leaf, write: w})
}

// fork tells what stands at a depth on both sides: those of an inner node; a leaf stands on its key's side, as if it had gone down one step.
func (p *plan) fork(h, d int) (left, right int) {
	if p.store.Kind(h) == api.Inner {
		return p.store.Sides(h)
	}
	if path.Bit(p.store.Key(h), d) == 1 {
		return 0, h
	}
	return h, 0
}

// split parts writes that are in order by the bit d of their keys, in which they part first, if at all.
func split(l []api.Write, d int) (zeros, ones []api.Write) {
	n := sort.Search(len(l), func(i int) bool { return path.Bit(l[i].Key, d) == 1 })
	return l[:n], l[n:]
}

// join tells what stands above two parts: a leaf that is alone goes up, of nothing there is nothing, all else has an inner node.
func (p *plan) join(d, left, right int) int {
	switch {
	case left == 0 && !p.isInner(right):
		return right
	case right == 0 && !p.isInner(left):
		return left
	}
	return p.add(planned{kind: api.Inner, depth: d, left: left, right: right})
}

// isInner tells whether a part is an inner node.
func (p *plan) isInner(part int) bool {
	if part < 0 {
		return p.nodes[-part-1].kind == api.Inner
	}
	return p.store.Kind(part) == api.Inner
}

// shared tells the nodes of the old tree that the new one is to hold: sides of nodes that are made, or the new root itself.
func (p *plan) shared(top int) []int {
	var l []int
	keep := func(part int) {
		if part > 0 {
			l = append(l, part)
		}
	}
	for _, n := range p.nodes {
		keep(n.left)
		keep(n.right)
	}
	keep(top)
	return l
}

// build makes all that is planned, and tells the handle of the part at the top. No call is refused: there is room, shared nodes are held, and sides fit where they stood, or where keys part.
func (p *plan) build(top int) int {
	var made []int
	handle := func(part int) int {
		if part < 0 {
			return made[-part-1]
		}
		return part
	}
	for _, n := range p.nodes {
		var h int
		switch n.kind {
		case api.Leaf:
			h, _ = p.store.Leaf(n.write.Key, n.write.Value)
		case api.Inner:
			h, _ = p.store.Inner(n.depth, handle(n.left), handle(n.right))
		}
		made = append(made, h)
	}
	return handle(top)
}

// countable tells whether each shared node may be held once more, or is held once less when the old root is dropped.
func countable(s *store.Store, root int, shared []int) bool {
	for _, h := range shared {
		if s.Count(h) == api.MaxCount && stays(s, root, h) {
			return false
		}
	}
	return true
}

// stays tells whether a node above h in the old tree is held by others, too, so that h is still a side there when the old root is dropped.
func stays(s *store.Store, root, h int) bool {
	way, _, _ := walk.Handles(s, root, s.Key(h))
	for _, above := range way {
		if above == h {
			return false
		}
		if s.Count(above) > 1 {
			return true
		}
	}
	return false
}

// holdAll holds nodes once more, for the new tree. It tells those whose count can't grow: callers hold these so often, as sides are few, that one of their holds may be lent.
func holdAll(s *store.Store, nodes []int) (lent []int) {
	for _, h := range nodes {
		if s.Hold(h) == api.ErrLong {
			lent = append(lent, h)
		}
	}
	return lent
}
