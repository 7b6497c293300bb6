package store_test

import (
	"bytes"
	"fmt"
	"slices"
	"testing"

	"rootcellar/api"
	"rootcellar/node"
	"rootcellar/sha"
	"rootcellar/store"
	"rootcellar/tag"
)

// grow makes the tree of entries with the same first d bits, no two of one key: its handle, held once.
func grow(t testing.TB, s *store.Store, l []api.Pair, d int) int {
	t.Helper()
	if len(l) == 0 {
		return 0
	}
	if len(l) == 1 {
		h, e := s.Leaf(l[0].Key, l[0].Value)
		if e != api.OK {
			t.Fatalf("Leaf = %d", e)
		}
		return h
	}
	var sides [2][]api.Pair
	for _, p := range l {
		bit := p.Key[d/8] >> (7 - d%8) & 1
		sides[bit] = append(sides[bit], p)
	}
	left := grow(t, s, sides[0], d+1)
	right := grow(t, s, sides[1], d+1)
	h, e := s.Inner(d, left, right)
	if e != api.OK {
		t.Fatalf("Inner(%d, %d, %d) = %d", d, left, right, e)
	}
	return h
}

// reached tells the handles of a tree, in the order in which Drop makes them free, if nothing else holds them.
func reached(s *store.Store, h int) []int {
	if h == 0 {
		return nil
	}
	left, right := s.Sides(h)
	return append(append([]int{h}, reached(s, left)...), reached(s, right)...)
}

// entries tells those of the leaves below a handle.
func entries(s *store.Store, h int) []api.Pair {
	var l []api.Pair
	for _, h := range reached(s, h) {
		if s.Kind(h) == api.Leaf {
			l = append(l, api.Pair{Key: s.Key(h), Value: s.Value(h)})
		}
	}
	return l
}

// many makes n entries with keys that a function tells.
func many(n int, key func(int) api.Path) []api.Pair {
	var l []api.Pair
	for i := range n {
		l = append(l, api.Pair{Key: key(i), Value: noise(i % 40)})
	}
	return l
}

// scattered keys are digests; near ones part at the last bits; twins at the last one, two by two.
func scattered(i int) api.Path { return api.Path(sha.Sum([]byte{byte(i), byte(i >> 8)})) }

func near(i int) api.Path { return api.Path{30: byte(i >> 8), 31: byte(i)} }

func twins(i int) api.Path {
	k := scattered(i / 2)
	k[31] = k[31]&^1 | byte(i&1)
	return k
}

func bare(keys ...api.Path) []api.Pair {
	return many(len(keys), func(i int) api.Path { return keys[i] })
}

// lists are entries of trees of several depths.
func lists() map[string][]api.Pair {
	return map[string][]api.Pair{
		"none": nil, "Z": bare(keyZ), "Y": bare(keyY), "Z, Y": bare(keyZ, keyY), "Z, X, Y": bare(keyZ, keyX, keyY), "X, Y": bare(keyX, keyY),
		"Z, X": bare(keyZ, keyX), "Z, O": bare(keyZ, keyO), "Z, O, Y": bare(keyZ, keyO, keyY),
		"5 scattered": many(5, scattered), "100 scattered": many(100, scattered), "1000 scattered": many(1000, scattered),
		"100 near": many(100, near), "1000 near": many(1000, near), "20 twins": many(20, twins),
	}
}

func TestRootsOfTrees(t *testing.T) {
	for name, l := range lists() {
		s := fresh(t, 8000)
		h := grow(t, s, l, 0)
		want, e := node.Root(l)
		if s.Digest(h) != want || e != api.OK || s.Root(h) != api.OK || s.Size(h) != len(l) {
			t.Errorf("%s: Digest %x, not %x, Root %d, Size %d", name, s.Digest(h), want, s.Root(h), s.Size(h))
		}
		sound(t, name, s)
		got := entries(s, h)
		slices.SortFunc(l, func(a, b api.Pair) int { return bytes.Compare(a.Key[:], b.Key[:]) })
		if !slices.EqualFunc(got, l, func(a, b api.Pair) bool { return a.Key == b.Key && bytes.Equal(a.Value, b.Value) }) {
			t.Errorf("%s: the leaves below have %d other entries", name, len(got))
		}
		if h == 0 {
			continue
		}
		n := s.Occupied()
		drop(t, s, h, n)
		if s.Occupied() != 0 || len(s.Handles()) != 0 {
			t.Errorf("%s: %d slots are occupied when nothing is held", name, s.Occupied())
		}
	}
}

// sound holds P7.7 against all nodes of a store: each one's digest, and how counts add up.
func sound(t testing.TB, when string, s *store.Store) {
	t.Helper()
	sides := map[int]int{}
	for _, h := range s.Handles() {
		left, right := s.Sides(h)
		sides[left]++
		sides[right]++
	}
	for _, h := range s.Handles() {
		if s.Count(h) != s.Held(h)+sides[h] || s.Count(h) < 1 || s.Held(h) < 0 {
			t.Fatalf("%s: handle %d is the side of %d nodes: Count %d, Held %d", when, h, sides[h], s.Count(h), s.Held(h))
		}
		if digest, e := node.Digest(s.Node(h)); e != api.OK || digest != s.Digest(h) {
			t.Fatalf("%s: handle %d: Digest %x, its node's %x, %d", when, h, s.Digest(h), digest, e)
		}
	}
}

// Each inner node of a tree has the root, at its depth, of the entries below it, and their first bits.
func TestNodesOfTrees(t *testing.T) {
	for name, l := range lists() {
		if len(l) > 100 {
			continue
		}
		s := fresh(t, 8000)
		grow(t, s, l, 0)
		for _, h := range s.Handles() {
			if s.Kind(h) != api.Inner {
				continue
			}
			d, below := s.Depth(h), entries(s, h)
			if want, e := node.RootAt(below, d); e != api.OK || s.Digest(h) != want || s.Size(h) != len(below) {
				t.Fatalf("%s, depth %d: Digest %x, not %x, %d, Size %d, not %d", name, d, s.Digest(h), want, e, s.Size(h), len(below))
			}
			first := digits(s.Key(h))
			for _, p := range below {
				if digits(p.Key)[:d] != first[:d] {
					t.Fatalf("%s, depth %d: Key %x, but %x is below", name, d, s.Key(h), p.Key)
				}
			}
			if bytes.ContainsAny([]byte(first[d:]), "1") {
				t.Fatalf("%s, depth %d: Key %x", name, d, s.Key(h))
			}
			root := api.ErrArg
			if d == 0 {
				root = api.OK
			}
			if s.Root(h) != root {
				t.Fatalf("%s, depth %d: Root %d", name, d, s.Root(h))
			}
		}
	}
}

// The document's ten examples: how many nodes there are, and their digests.
func TestExamplesOfTheWhole(t *testing.T) {
	v, e := tag.Value(nil), tag.Empty()
	z, o, x, y := tag.Leaf(keyZ, v), tag.Leaf(keyO, v), tag.Leaf(keyX, v), tag.Leaf(keyY, v)
	deep := tag.Inner(z, o)
	for range 255 {
		deep = tag.Inner(deep, e)
	}
	for _, c := range []struct {
		keys  []api.Path
		nodes int
		want  api.Hash
	}{
		{nil, 0, e},
		{[]api.Path{keyZ}, 1, z},
		{[]api.Path{keyZ, keyY}, 3, tag.Inner(z, y)},
		{[]api.Path{keyZ, keyX, keyY}, 5, tag.Inner(tag.Inner(z, x), y)},
		{[]api.Path{keyZ, keyO}, 258, deep},
	} {
		var l []api.Pair
		for _, k := range c.keys {
			l = append(l, api.Pair{Key: k})
		}
		s := fresh(t, 600)
		if h := grow(t, s, l, 0); s.Digest(h) != c.want || s.Occupied() != c.nodes {
			t.Errorf("%d keys: Digest %x, not %x, %d nodes, not %d", len(l), s.Digest(h), c.want, s.Occupied(), c.nodes)
		}
	}
}

// takesNext sees that the free slots are taken in the order opposite to the one in which they became free.
func takesNext(t testing.TB, s *store.Store, freed []int) {
	t.Helper()
	for i, want := range slices.Backward(freed) {
		if h, e := s.Leaf(near(i), nil); h != want || e != api.OK {
			t.Fatalf("Leaf behind a Drop = %d, %d, not %d", h, e, want)
		}
	}
}

func TestOrderInWhichNodesBecomeFree(t *testing.T) {
	for name, l := range lists() {
		if len(l) == 0 {
			continue
		}
		s := fresh(t, 8000)
		h := grow(t, s, l, 0)
		order := reached(s, h)
		drop(t, s, h, len(order))
		takesNext(t, s, order)
		if h, e := s.Leaf(keyY, nil); h != len(order)+1 || e != api.OK {
			t.Errorf("%s: Leaf behind all that were free = %d, %d", name, h, e)
		}
	}
}

// By hand: a node ahead of its left side, all below that ahead of its right side; what is held elsewhere stays.
func TestOrderOfASmallTree(t *testing.T) {
	small := func() *store.Store {
		s := fresh(t, 9)
		leaf(t, s, api.Path{0: 0xc0}, nil, 1)
		leaf(t, s, api.Path{0: 0x80}, nil, 2)
		leaf(t, s, api.Path{0: 0x40}, nil, 3)
		leaf(t, s, api.Path{0: 0x00}, nil, 4)
		inner(t, s, 1, 4, 3, 5)
		inner(t, s, 1, 2, 1, 6)
		inner(t, s, 0, 5, 6, 7)
		return s
	}
	s := small()
	drop(t, s, 7, 7)
	takesNext(t, s, []int{7, 5, 4, 3, 6, 2, 1})
	for _, c := range []struct {
		held  []int
		freed []int
	}{
		{[]int{4}, []int{7, 5, 3, 6, 2, 1}}, {[]int{5}, []int{7, 6, 2, 1}}, {[]int{6}, []int{7, 5, 4, 3}}, {[]int{5, 6}, []int{7}},
		{[]int{1, 4}, []int{7, 5, 3, 6, 2}}, {[]int{3, 6}, []int{7, 5, 4}}, {[]int{1, 2, 3, 4}, []int{7, 5, 6}}, {[]int{5, 4, 1}, []int{7, 6, 2}},
	} {
		s := small()
		for _, h := range c.held {
			hold(t, s, h)
		}
		drop(t, s, 7, len(c.freed))
		if s.Occupied() != 7-len(c.freed) {
			t.Errorf("held %v: Occupied = %d", c.held, s.Occupied())
		}
		sound(t, fmt.Sprint("held ", c.held), s)
		takesNext(t, s, c.freed)
		if h, e := s.Leaf(keyZ, nil); h != 8 || e != api.OK {
			t.Errorf("held %v: Leaf = %d, %d", c.held, h, e)
		}
	}
}

// Drop of a node that is held elsewhere too makes nothing free.
func TestDropOfWhatIsHeldElsewhere(t *testing.T) {
	s := fresh(t, 300)
	h := grow(t, s, bare(keyZ, keyO), 0)
	hold(t, s, h)
	before := reached(s, h)
	drop(t, s, h, 0)
	if !slices.Equal(reached(s, h), before) || s.Occupied() != 258 {
		t.Errorf("Occupied = %d", s.Occupied())
	}
	sound(t, "held once still", s)
	drop(t, s, h, 258)
	nothing(t, s, h)
}

// Versions that share all but the way to one leaf: the old one, and one with another value there.
func TestSharedSides(t *testing.T) {
	const deep = 40
	s := fresh(t, 2000)
	old := many(deep, func(i int) api.Path { // each key parts from the way of noughts one bit deeper
		var k api.Path
		k[i/8] = 1 << (7 - i%8)
		return k
	})
	old = append(old, api.Pair{Key: keyZ})
	root := grow(t, s, old, 0)
	want, below := s.Digest(root), entries(s, root)
	for depth := range deep {
		made := anew(t, s, root, depth)
		sound(t, "two versions", s)
		next := slices.Clone(old)
		next[depth].Value = []byte("another one")
		if digest, _ := node.Root(next); s.Digest(made) != digest || s.Size(made) != len(next) {
			t.Fatalf("depth %d: Digest %x, not %x, Size %d", depth, s.Digest(made), digest, s.Size(made))
		}
		n := s.Occupied()
		drop(t, s, made, depth+2)
		if s.Occupied() != n-depth-2 || s.Digest(root) != want || !slices.EqualFunc(entries(s, root), below, likePairs) {
			t.Fatalf("depth %d: the old version is another one", depth)
		}
		sound(t, "the old version alone", s)
	}
	made := anew(t, s, root, deep-1)
	next := s.Digest(made)
	drop(t, s, root, deep+1)
	sound(t, "the new version alone", s)
	if s.Digest(made) != next || s.Size(made) != deep+1 {
		t.Error("the new version is another one behind a Drop of the old one")
	}
	drop(t, s, made, s.Occupied())
	if s.Occupied() != 0 {
		t.Errorf("Occupied = %d", s.Occupied())
	}
}

func likePairs(a, b api.Pair) bool { return a.Key == b.Key && bytes.Equal(a.Value, b.Value) }

// anew makes a tree in which the leaf on the right side at a depth has another value: the way there is copied, all else shared.
func anew(t testing.TB, s *store.Store, root, depth int) int {
	t.Helper()
	var lefts, rights []int
	for h := root; len(lefts) <= depth; {
		left, right := s.Sides(h)
		lefts, rights = append(lefts, left), append(rights, right)
		h = left
	}
	hold(t, s, lefts[depth])
	made, e := s.Leaf(s.Key(rights[depth]), []byte("another one"))
	if e != api.OK {
		t.Fatalf("Leaf = %d", e)
	}
	made, e = s.Inner(depth, lefts[depth], made)
	for d := depth - 1; d >= 0 && e == api.OK; d-- {
		hold(t, s, rights[d])
		made, e = s.Inner(d, made, rights[d])
	}
	if e != api.OK {
		t.Fatalf("Inner = %d", e)
	}
	return made
}

// The greatest room, full of one tree and a leaf beside it.
func TestGreatestRoom(t *testing.T) {
	s := fresh(t, api.MaxNodes)
	root := grow(t, s, many(1<<15, func(i int) api.Path { return api.Path{0: byte(i >> 7), 1: byte(i << 1)} }), 0)
	if s.Occupied() != api.MaxNodes-1 || s.Size(root) != 1<<15 || s.Root(root) != api.OK {
		t.Fatalf("Occupied %d, Size %d, Root %d", s.Occupied(), s.Size(root), s.Root(root))
	}
	leaf(t, s, api.Path{31: 1}, nil, api.MaxNodes)
	if h, e := s.Leaf(keyZ, nil); h != 0 || e != api.ErrStoreFull {
		t.Errorf("Leaf of a full store = %d, %d", h, e)
	}
	left, _ := s.Sides(root)
	hold(t, s, left)
	for s.Kind(left) != api.Leaf {
		left, _ = s.Sides(left)
	}
	hold(t, s, left)
	if h, e := s.Inner(255, left, api.MaxNodes); h != 0 || e != api.ErrStoreFull {
		t.Errorf("Inner of a full store = %d, %d", h, e)
	}
	counts(t, s, left, 2, 1)
	counts(t, s, api.MaxNodes, 1, 1)
	if l := s.Handles(); len(l) != api.MaxNodes || l[0] != 1 || l[len(l)-1] != api.MaxNodes || !slices.IsSorted(l) {
		t.Errorf("%d handles", len(l))
	}
	if s.Has(api.MaxNodes+1) || !s.Has(api.MaxNodes) {
		t.Error("Has at the end")
	}
	drop(t, s, root, 1<<15)
	side, _ := s.Leaf(keyZ, nil)
	drop(t, s, side, 1)
	if s.Occupied() != 1<<15 {
		t.Errorf("Occupied = %d", s.Occupied())
	}
}

// What is held stays as it is, whatever else is made and dropped.
func TestWhatIsHeldStays(t *testing.T) {
	s := fresh(t, 20000)
	root := grow(t, s, many(60, scattered), 0)
	digest, below, order := s.Digest(root), entries(s, root), reached(s, root)
	for i := range 40 {
		other := grow(t, s, many(i+1, twins)[:i%7+1], 0)
		some := order[i*3%len(order)]
		hold(t, s, some)
		sound(t, "beside others", s)
		if i%2 == 0 {
			drop(t, s, other, len(reached(s, other)))
		}
		drop(t, s, some, 0)
		if s.Digest(root) != digest || !slices.Equal(reached(s, root), order) || !slices.EqualFunc(entries(s, root), below, likePairs) {
			t.Fatalf("what is held is another one behind step %d", i)
		}
	}
	for _, h := range s.Handles() {
		for s.Held(h) > 0 {
			s.Drop(h)
		}
	}
	if s.Occupied() != 0 {
		t.Errorf("Occupied = %d when nothing is held", s.Occupied())
	}
}
