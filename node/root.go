package node

import (
	"slices"
	"sort"

	"rootcellar/api"
	"rootcellar/path"
	"rootcellar/tag"
)

// Root tells the root of entries.
func Root(l []api.Pair) (api.Hash, api.Errno) { return RootAt(l, 0) }

// RootAt tells the root at a depth.
func RootAt(l []api.Pair, d int) (api.Hash, api.Errno) {
	if d < 0 || d > api.KeyBits {
		return api.Hash{}, api.ErrArg
	}
	leaves, e := leavesOf(l)
	if e != api.OK {
		return api.Hash{}, e
	}
	if parted(leaves, d) {
		return api.Hash{}, api.ErrArg
	}
	return rootAt(leaves, d), api.OK
}

// leavesOf tells the entries' leaves by rising key, or why the entries may not be.
func leavesOf(l []api.Pair) ([]api.Node, api.Errno) {
	if e := mayBe(l); e != api.OK {
		return nil, e
	}
	leaves := make([]api.Node, len(l))
	for i, p := range l {
		leaves[i] = api.Node{Kind: api.Leaf, Key: p.Key, Value: tag.Value(p.Value)}
	}
	slices.SortFunc(leaves, func(a, b api.Node) int { return path.Compare(a.Key, b.Key) })
	return leaves, api.OK
}

// mayBe tells the first reason for which entries may not be.
func mayBe(l []api.Pair) api.Errno {
	if len(l) > api.MaxEntries {
		return api.ErrLong
	}
	ahead := make(map[api.Path]struct{}, len(l))
	for _, p := range l {
		if len(p.Value) > api.MaxValue {
			return api.ErrLong
		}
		if _, there := ahead[p.Key]; there {
			return api.ErrThere
		}
		ahead[p.Key] = struct{}{}
	}
	return api.OK
}

// parted tells whether leaves part ahead of the depth d. As they rise, no two have less in common than the first and the last.
func parted(leaves []api.Node, d int) bool {
	return len(leaves) > 1 && !path.Under(leaves[0].Key, leaves[len(leaves)-1].Key, d)
}

// rootAt tells the root of leaves that have the same first d bits. Unlike keys part ahead of the depth 256, so that it ends.
func rootAt(leaves []api.Node, d int) api.Hash {
	switch len(leaves) {
	case 0:
		return tag.Empty()
	case 1:
		return tag.Leaf(leaves[0].Key, leaves[0].Value)
	}
	left, right := part(leaves, d)
	return tag.Inner(rootAt(left, d+1), rootAt(right, d+1))
}

// part tells the leaves whose bit d is 0, and the others. As they rise and have the same first d bits, the former stand ahead.
func part(leaves []api.Node, d int) (left, right []api.Node) {
	i := sort.Search(len(leaves), func(i int) bool { return path.Bit(leaves[i].Key, d) == 1 })
	return leaves[:i], leaves[i:]
}

// Way tells a key's way among entries.
func Way(l []api.Pair, key api.Path) (api.Proof, api.Errno) {
	leaves, e := leavesOf(l)
	if e != api.OK {
		return api.Proof{}, e
	}
	var p api.Proof
	for d := 0; len(leaves) > 1; d++ {
		mine, others := part(leaves, d)
		if path.Bit(key, d) == 1 {
			mine, others = others, mine
		}
		p.Sides = append(p.Sides, rootAt(others, d+1))
		leaves = mine
	}
	if len(leaves) == 1 {
		p.End = leaves[0]
	}
	return p, api.OK
}

// Up tells the digest at the top of a way.
func Up(key api.Path, p api.Proof) (api.Hash, api.Errno) {
	if len(p.Sides) > api.KeyBits {
		return api.Hash{}, api.ErrLong
	}
	h, e := Digest(p.End)
	if e != api.OK || p.End.Kind == api.Inner {
		return api.Hash{}, api.ErrArg
	}
	for d := len(p.Sides) - 1; d >= 0; d-- {
		h = join(path.Bit(key, d), h, p.Sides[d])
	}
	return h, api.OK
}

// join tells the digest of the inner node in which mine stands on the side of bit.
func join(bit int, mine, other api.Hash) api.Hash {
	if bit == 1 {
		return tag.Inner(other, mine)
	}
	return tag.Inner(mine, other)
}
