package store

import (
	"bytes"

	"rootcellar/api"
	"rootcellar/tag"
)

// Kind tells what a handle's node is.
func (s *Store) Kind(h int) api.Kind { return s.at(h).kind }

// Depth tells an inner node's depth.
func (s *Store) Depth(h int) int {
	if !s.made() {
		return 0
	}
	c := s.at(h)
	if c.kind != api.Inner {
		return -1
	}
	return c.depth
}

// Key tells a leaf's key, or what all keys below have in common up to an inner node's depth.
func (s *Store) Key(h int) api.Path { return s.at(h).key }

// Value tells a leaf's value.
func (s *Store) Value(h int) []byte { return bytes.Clone(s.at(h).value) }

// Sides tells an inner node's sides.
func (s *Store) Sides(h int) (int, int) {
	c := s.at(h)
	return c.left, c.right
}

// Digest tells a handle's digest.
func (s *Store) Digest(h int) api.Hash {
	if s.made() && h == 0 {
		return tag.Empty()
	}
	return s.at(h).Hash
}

// Node tells a handle's node by digests.
func (s *Store) Node(h int) api.Node {
	c := s.at(h)
	switch c.kind {
	case api.Leaf:
		return api.Node{Kind: api.Leaf, Key: c.key, Value: tag.Value(c.value)}
	case api.Inner:
		return api.Node{Kind: api.Inner, Left: s.Digest(c.left), Right: s.Digest(c.right)}
	}
	return api.Node{}
}

// Size tells how many leaves are below.
func (s *Store) Size(h int) int { return s.at(h).size }

// Count tells how often a node is held.
func (s *Store) Count(h int) int {
	if !s.made() {
		return 0
	}
	return s.cells.Count(h)
}

// Held tells how often callers hold it.
func (s *Store) Held(h int) int { return s.Count(h) - s.at(h).above }

// Has tells whether a handle is a node's.
func (s *Store) Has(h int) bool { return s.Count(h) > 0 }

// Occupied tells how many slots hold a node.
func (s *Store) Occupied() int {
	if !s.made() {
		return 0
	}
	return s.cells.Len()
}

// Room tells how many slots there are.
func (s *Store) Room() int {
	if !s.made() {
		return 0
	}
	return s.cells.Room()
}

// Handles tells the handles of all nodes.
func (s *Store) Handles() []int {
	if !s.made() {
		return nil
	}
	return s.cells.Slots()
}

// Root tells whether a handle is a root.
func (s *Store) Root(h int) api.Errno {
	switch {
	case !s.made():
		return api.ErrNil
	case h == 0:
		return api.OK
	case !s.Has(h):
		return api.ErrMissing
	case s.Depth(h) > 0:
		return api.ErrArg
	}
	return api.OK
}
