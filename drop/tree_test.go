package drop_test

import (
	"fmt"
	"slices"
	"testing"

	"rootcellar/api"
	"rootcellar/drop"
	"rootcellar/node"
	"rootcellar/put"
	"rootcellar/sha"
	"rootcellar/store"
)

// scattered keys are digests; near ones part at the last bits; a ladder's each part from the way of noughts one bit deeper.
func scattered(i int) api.Path { return api.Path(sha.Sum([]byte{byte(i), byte(i >> 8)})) }

func near(i int) api.Path { return api.Path{30: byte(i >> 8), 31: byte(i)} }

func ladder(i int) api.Path { return flip(api.Path{}, i) }

// kinds of keys, by name.
var kinds = map[string]func(int) api.Path{"scattered": scattered, "near": near, "a ladder": ladder}

// many makes n entries with keys that a function tells.
func many(n int, key func(int) api.Path) []api.Pair {
	var l []api.Pair
	for i := range n {
		l = append(l, api.Pair{Key: key(i), Value: noise(i % 40)})
	}
	return l
}

// of makes entries of keys.
func of(keys ...api.Path) []api.Pair {
	return many(len(keys), func(i int) api.Path { return keys[i] })
}

// shuffle turns entries into another order.
func (c *chance) shuffle(l []api.Pair) {
	for i := range l {
		j := (int(c.next())<<8 + int(c.next())) % (i + 1)
		l[i], l[j] = l[j], l[i]
	}
}

// reached tells the handles of a tree's nodes, rising.
func reached(s *store.Store, root int) []int {
	var l []int
	for next := []int{root}; len(next) > 0; {
		h := next[0]
		next = next[1:]
		if h != 0 {
			left, right := s.Sides(h)
			l, next = append(l, h), append(next, left, right)
		}
	}
	slices.Sort(l)
	return l
}

// tree tells the nodes of a root, without how often each is held.
func tree(s *store.Store, root int) []row {
	var l []row
	for _, h := range reached(s, root) {
		r := told(s, h)
		r.count, r.held = 0, 0
		l = append(l, r)
	}
	return l
}

// slots sees which slot is a root's, and which are its sides'.
func slots(t testing.TB, s *store.Store, root, want, wantLeft, wantRight int) {
	t.Helper()
	if left, right := s.Sides(root); root != want || left != wantLeft || right != wantRight {
		t.Fatalf("the root is %d with the sides %d, %d, not %d with %d, %d", root, left, right, want, wantLeft, wantRight)
	}
}

// free sees in which order the slots that are free are taken.
func free(t testing.TB, s *store.Store, want ...int) {
	t.Helper()
	for i, slot := range want {
		if h := leaf(t, s, keyN, nil); h != slot {
			t.Fatalf("of the free slots %d is taken at %d, not %d", h, i, slot)
		}
	}
}

// The other side is an inner node, then a leaf that goes up to the root.
func TestWhichSlotsAreTaken(t *testing.T) {
	s := fresh(t, 600)
	root := all(t, s, 0, of(keyZ, keyY, keyX)) // the leaves 1, 2, 4, the node of Z and X 5, the top 6; 3 is free
	slots(t, s, root, 6, 5, 2)
	root = remove(t, s, root, keyY) // the top 3; 6, 2 become free
	slots(t, s, root, 3, 5, 0)
	root = remove(t, s, root, keyX) // none; 3, 5, 4 become free
	slots(t, s, root, 1, 0, 0)
	root = remove(t, s, root, keyZ)
	slots(t, s, root, 0, 0, 0)
	free(t, s, 1, 4, 5, 3, 2, 6, 7)
}

// A leaf that goes up one step: the nodes above are made from the deepest up, the old ones let go of behind all of them.
func TestWhichSlotsAreTakenInTheMidst(t *testing.T) {
	s := fresh(t, 600)
	low := api.Path{0: 32}                          // parts from Z at the bit 2
	root := all(t, s, 0, of(keyZ, keyY, keyX, low)) // the leaf 3, the nodes 7, 8, 9; 6, 5 are free
	slots(t, s, root, 9, 8, 2)
	slots(t, s, 8, 8, 7, 4)
	slots(t, s, 7, 7, 1, 3)
	root = remove(t, s, root, low) // depth 1 5, depth 0 6; 9, 8, 7, 3 become free
	slots(t, s, root, 6, 5, 2)
	slots(t, s, 5, 5, 1, 4)
	if !slices.Equal(s.Handles(), []int{1, 2, 4, 5, 6}) {
		t.Errorf("occupied are %v", s.Handles())
	}
	root = remove(t, s, root, keyZ) // the top 3; 6, 5, 1 become free
	slots(t, s, root, 3, 4, 2)
	free(t, s, 1, 5, 6, 7, 8, 9, 10)
}

// The longest ways: a leaf goes up from the deepest node, 255 nodes are made anew.
func TestWhichSlotsAreTakenOnTheLongestWay(t *testing.T) {
	for _, key := range []api.Path{keyZ, keyN, scattered(4)} {
		s := fresh(t, 900)
		l := of(key, flip(key, 255), flip(key, 254)) // 1; 2, 3 to 258; 259, 260 to 514: 258 down to 4 are free
		root := all(t, s, 0, l)
		costs(t, s, root, l[1].Key, 255)
		root = remove(t, s, root, l[1].Key)
		if root != 258 || s.Occupied() != 257 {
			t.Fatalf("the root is %d, %d slots are occupied", root, s.Occupied())
		}
		for d, h := 0, root; d < 255; d++ {
			left, right := s.Sides(h)
			if s.Depth(h) != d || h != 258-d || d < 254 && left+right != h-1 || d == 254 && left+right != 1+259 {
				t.Fatalf("at depth %d stands %d, of depth %d, with the sides %d, %d", d, h, s.Depth(h), left, right)
			}
			h--
		}
		rooted(t, "the longest way", s, root, besides(l, l[1].Key), 1)
		free(t, s, 2, 3, 260, 261, 262)
	}
}

// The same as the model has it, also where slots became free ahead, in an order of any kind.
func TestSlotsThatBecameFreeAhead(t *testing.T) {
	for seed := range 20 {
		c := newTwin(t, 900)
		numbers := chance(seed)
		for range 60 {
			c.leaf(keyN, nil)
		}
		for c.s.Occupied() > 20 {
			if h := int(numbers.next())%60 + 1; c.s.Has(h) {
				c.letGo(h)
			}
		}
		l := append(many(12, scattered), of(flip(scattered(0), 30+seed), flip(scattered(1), 40-seed))...)
		root := c.all(0, l)
		numbers.shuffle(l)
		for _, p := range l[:9+seed%6] {
			root = c.remove(root, p.Key)
			c.compare()
		}
		c.filled()
		c.emptied()
	}
}

// shrinks drops a key of which the cost is known, with the old root held besides, so that all that is made shows.
func shrinks(t testing.TB, s *store.Store, root int, l []api.Pair, key api.Path, cost int) {
	t.Helper()
	costs(t, s, root, key, cost)
	before := rows(s)
	hold(t, s, root)
	held := s.Held(root)
	next := remove(t, s, root, key)
	if s.Occupied() != len(before)+cost || cost > 256 {
		t.Fatalf("Drop of %x makes %d nodes, not %d", key, s.Occupied()-len(before), cost)
	}
	wantHeld := 0 // of nothing callers hold nothing
	if next != 0 {
		wantHeld = 1
	}
	for _, r := range before {
		if r.handle == next {
			wantHeld = r.held + 1
		}
	}
	rooted(t, "the new root", s, next, besides(l, key), wantHeld)
	rooted(t, "the old root", s, root, l, held-1)
	if next != 0 {
		if n := letGo(t, s, next); n != cost {
			t.Fatalf("with the new root %d nodes are let go, not %d", n, cost)
		}
	}
	same(t, "the new root is let go of", s, before)
}

// A key whose other side is a leaf, that goes up to the root: of two keys that part at each bit.
func TestLeafGoesUpToTheRoot(t *testing.T) {
	for d := range 256 {
		for _, key := range []api.Path{keyZ, keyN, scattered(d)} {
			s := fresh(t, 600)
			l := of(key, flip(key, d))
			root := all(t, s, 0, l)
			shrinks(t, s, root, l, l[0].Key, 0)
			shrinks(t, s, root, l, l[1].Key, 0)
			if h := remove(t, s, root, l[1].Key); h != 1 || s.Occupied() != 1 || s.Held(h) != 1 || s.Count(h) != 1 {
				t.Fatalf("parting at %d: the root is %d, %d slots are occupied", d, h, s.Occupied())
			}
		}
	}
}

// A leaf that goes up one step, or many, past inner nodes whose other side is empty, to just below where another key parts.
func TestLeafGoesUp(t *testing.T) {
	for d := 1; d < 256; d++ {
		for i, e := range []int{0, 1, d / 2, d - 2, d - 1} {
			if e < 0 || e >= d {
				continue
			}
			key := []api.Path{keyZ, keyN, scattered(d)}[(d+i)%3]
			s := fresh(t, 1200)
			l := of(key, flip(key, d), flip(key, e))
			root := all(t, s, 0, l)
			shrinks(t, s, root, l, l[0].Key, e+1)
			shrinks(t, s, root, l, l[1].Key, e+1)
			root = remove(t, s, root, l[1].Key)
			if s.Occupied() != e+3 {
				t.Fatalf("from %d to %d: %d slots are occupied", d, e+1, s.Occupied())
			}
			h := root
			for range e {
				left, right := s.Sides(h)
				h = left + right
			}
			if left, right := s.Sides(h); s.Kind(left) != api.Leaf || s.Kind(right) != api.Leaf || s.Depth(h) != e || s.Count(1) != 1 {
				t.Fatalf("from %d to %d: %d and %d stand below the depth %d", d, e+1, left, right, s.Depth(h))
			}
		}
	}
}

// A key whose other side is an inner node: the node above is made anew with nothing on the key's side.
func TestOtherSideIsAnInnerNode(t *testing.T) {
	for d := range 255 {
		for i, e := range []int{d + 1, d + 2, (d + 256) / 2, 255} {
			if e > 255 {
				continue
			}
			key := []api.Path{keyZ, keyN, scattered(d)}[(d+i)%3]
			s := fresh(t, 1200)
			l := of(key, flip(key, d), flip(flip(key, d), e))
			root := all(t, s, 0, l)
			occupied := s.Occupied()
			shrinks(t, s, root, l, key, d+1)
			root = remove(t, s, root, key)
			if s.Occupied() != occupied-1 {
				t.Fatalf("%d, %d: %d slots are occupied, %d were ahead", d, e, s.Occupied(), occupied)
			}
			for h, at := root, 0; at <= d; at++ {
				left, right := s.Sides(h)
				if left != 0 && right != 0 || s.Kind(left+right) != api.Inner || s.Depth(h) != at {
					t.Fatalf("%d, %d: at the depth %d stands %d with the sides %d, %d", d, e, at, h, left, right)
				}
				h = left + right
			}
		}
	}
}

// A full ladder has an inner node beside each leaf but the deepest two.
func TestDropsFromALadder(t *testing.T) {
	l := append(many(256, ladder), api.Pair{Key: keyZ, Value: noise(9)})
	s := fresh(t, 1200)
	root := all(t, s, 0, l)
	if s.Occupied() != 513 {
		t.Fatalf("%d slots are occupied", s.Occupied())
	}
	for d := range 255 {
		shrinks(t, s, root, l, ladder(d), d+1)
		absent(t, s, root, flip(ladder(d), d+1))
		absent(t, s, root, flip(ladder(d), 255))
	}
	shrinks(t, s, root, l, ladder(255), 255)
	shrinks(t, s, root, l, keyZ, 255)
}

// A key whose leaf is the root itself: nothing is left, whatever the key.
func TestLeafIsTheRoot(t *testing.T) {
	for _, key := range append(pool(), scattered(3)) {
		for held := 1; held <= 3; held++ {
			s := fresh(t, 259)
			root := write(t, s, 0, key, noise(5))
			for range held - 1 {
				hold(t, s, root)
			}
			absent(t, s, root, flip(key, 0))
			absent(t, s, root, flip(key, 255))
			costs(t, s, root, key, 0)
			if h := remove(t, s, root, key); h != 0 || s.Held(root) != held-1 || s.Occupied() != min(held-1, 1) {
				t.Errorf("held %d times: %d, held %d times behind it, %d slots are occupied", held, h, s.Held(root), s.Occupied())
			}
		}
	}
}

// Keys that are not there: their ways end with nothing, at each depth at which one may.
func TestWaysThatEndWithNothing(t *testing.T) {
	for _, key := range []api.Path{keyZ, keyN, scattered(9)} {
		s := fresh(t, 1200)
		l := of(key, flip(key, 255))
		root := all(t, s, 0, l)
		hold(t, s, root)
		for d := range 255 {
			absent(t, s, root, flip(key, d))
			absent(t, s, root, flip(flip(key, d), 255))
		}
		rooted(t, "nothing was dropped", s, root, l, 2)
	}
}

// Keys that are not there: their ways end with another key's leaf, at each depth, and part from it at bits behind that.
func TestWaysThatEndWithAnotherLeaf(t *testing.T) {
	s := fresh(t, 1200)
	l := append(many(256, ladder), api.Pair{Key: keyZ})
	root := all(t, s, 0, l)
	for d := range 255 {
		for _, e := range []int{d + 1, d + 2, d + 50, 254, 255} {
			if e > d && e < 256 {
				absent(t, s, root, flip(ladder(d), e))
			}
		}
	}
	for _, key := range []api.Path{keyZ, keyO, keyN, scattered(2)} {
		s := fresh(t, 600)
		root := write(t, s, 0, key, nil)
		for d := range 256 {
			absent(t, s, root, flip(key, d))
		}
		rooted(t, "nothing was dropped", s, root, of(key), 1)
	}
}

// How often callers hold the old root and the new one, all else being held as ahead.
func TestHoldsGoOver(t *testing.T) {
	lists := [][]api.Pair{of(keyZ), of(keyZ, keyY), of(keyY, keyZ), of(keyZ, keyO), of(keyZ, keyY, keyO), of(keyO, keyX, keyZ, keyY), many(30, scattered)}
	for _, l := range lists {
		for held := 1; held <= 4; held++ {
			for _, key := range []api.Path{l[0].Key, l[len(l)-1].Key, flip(l[0].Key, 250)} {
				c := newTwin(t, 3000)
				root := c.all(0, l)
				for _, side := range []int{c.m.knots[root].left, c.m.knots[root].right} {
					for range held % 3 {
						if side != 0 {
							c.hold(side) // what callers hold besides, the leaf that goes up among it
						}
					}
				}
				for range held - 1 {
					c.hold(root)
				}
				_, there := valueOf(l, key)
				before := map[int]int{}
				for _, h := range c.s.Handles() {
					before[h] = c.s.Held(h)
				}
				next := c.remove(root, key)
				if (next != root) != there {
					t.Fatalf("%d keys, held %d times: the root is %d, it was %d", len(l), held, next, root)
				}
				if there && (c.s.Held(root) != held-1 || next != 0 && c.s.Held(next) != before[next]+1) {
					t.Fatalf("%d keys, held %d times: the old root %d times, the new one %d times behind it", len(l), held, c.s.Held(root), c.s.Held(next))
				}
				for _, h := range c.s.Handles() {
					if there && (h == root || h == next) {
						continue
					}
					if c.s.Held(h) != before[h] {
						t.Fatalf("%d keys: callers hold %d %d times, not %d", len(l), h, c.s.Held(h), before[h])
					}
				}
				c.compare()
				if held > 1 && there {
					rooted(t, "the old root", c.s, root, l, held-1)
				}
				c.filled()
				c.emptied()
			}
		}
	}
}

// The new root is a node that was there before: other roots have it for a side, and callers may hold it already.
func TestNewRootThatWasThereBefore(t *testing.T) {
	c := newTwin(t, 1200)
	z := c.put(0, keyZ, nil)
	c.hold(z)
	c.hold(z)
	one := c.put(z, keyY, nil)
	two := c.put(z, keyO, nil)
	if c.s.Held(z) != 1 || c.s.Count(z) != 3 {
		t.Fatalf("Z's leaf is held %d times, its count is %d", c.s.Held(z), c.s.Count(z))
	}
	if h := c.remove(one, keyY); h != z || c.s.Held(z) != 2 || c.s.Count(z) != 3 {
		t.Errorf("without Y: %d, held %d times, its count is %d", h, c.s.Held(z), c.s.Count(z))
	}
	c.compare()
	c.hold(two)
	if h := c.remove(two, keyO); h != z || c.s.Held(z) != 3 || c.s.Count(z) != 4 || c.s.Held(two) != 1 {
		t.Errorf("without O: %d, held %d times, its count is %d", h, c.s.Held(z), c.s.Count(z))
	}
	c.compare()
	if h := c.remove(z, keyZ); h != 0 || c.s.Held(z) != 2 || c.s.Count(z) != 3 {
		t.Errorf("without Z: %d, held %d times, its count is %d", h, c.s.Held(z), c.s.Count(z))
	}
	c.compare()
	rooted(t, "Z, O", c.s, two, []api.Pair{{Key: keyZ}, {Key: keyO}}, 1)
	c.filled()
	c.emptied()
}

// Many versions in one store share nodes: none that is held is changed by what is dropped from another one.
func TestRootsThatShareNodes(t *testing.T) {
	for name, key := range kinds {
		s := fresh(t, 20000)
		l := many(23, key)
		roots, lists := []int{all(t, s, 0, l)}, [][]api.Pair{l}
		for i := range 40 {
			from := i * 7 % len(roots)
			k := l[i*5%len(l)].Key
			if _, there := valueOf(lists[from], k); !there {
				absent(t, s, roots[from], k)
				continue
			}
			hold(t, s, roots[from])
			trees := map[int][]row{}
			for _, root := range roots {
				trees[root] = tree(s, root)
			}
			next := remove(t, s, roots[from], k)
			for root, before := range trees {
				if !slices.Equal(tree(s, root), before) {
					t.Fatalf("%s: %d is another one behind a drop from %d", name, root, roots[from])
				}
			}
			roots, lists = append(roots, next), append(lists, besides(lists[from], k))
		}
		for i, root := range roots {
			rooted(t, name, s, root, lists[i], 1)
		}
		for i := 0; i < len(roots); i += 2 { // with others gone each version is what it was
			letGo(t, s, roots[i])
		}
		for i := 1; i < len(roots); i += 2 {
			rooted(t, name, s, roots[i], lists[i], 1)
			letGo(t, s, roots[i])
		}
		if s.Occupied() != 0 {
			t.Errorf("%s: %d slots are occupied", name, s.Occupied())
		}
	}
}

// alone sees that nothing is occupied but a root's nodes, each held once.
func alone(t testing.TB, when string, s *store.Store, root int) {
	t.Helper()
	nodes := reached(s, root)
	if !slices.Equal(nodes, s.Handles()) {
		t.Fatalf("%s: %d nodes are occupied, the tree has %d", when, s.Occupied(), len(nodes))
	}
	for _, h := range nodes {
		if s.Count(h) != 1 {
			t.Fatalf("%s: %d is held %d times", when, h, s.Count(h))
		}
	}
}

// Where callers hold the old root alone nothing is occupied behind it but the new root's nodes, down to none.
func TestNothingElseIsOccupied(t *testing.T) {
	for name, key := range kinds {
		s := fresh(t, 6000)
		l := many(120, key)
		root := all(t, s, 0, l)
		numbers := chance(9)
		order := slices.Clone(l)
		numbers.shuffle(order)
		for _, p := range order {
			absent(t, s, root, flip(p.Key, 200))
			occupied := s.Occupied()
			cost, _ := drop.Cost(s, root, p.Key)
			root = remove(t, s, root, p.Key)
			l = besides(l, p.Key)
			rooted(t, name, s, root, l, min(root, 1))
			alone(t, name, s, root)
			if s.Occupied() > occupied+cost || cost > 256 {
				t.Fatalf("%s: %d nodes are occupied, %d were ahead, %d are made", name, s.Occupied(), occupied, cost)
			}
		}
		if root != 0 || s.Occupied() != 0 {
			t.Errorf("%s: the root is %d, %d slots are occupied", name, root, s.Occupied())
		}
	}
}

// orders goes over all orders of entries.
func orders(l []api.Pair, yield func([]api.Pair)) {
	if len(l) < 2 {
		yield(l)
		return
	}
	for i := range l {
		first := l[i]
		rest := slices.Delete(slices.Clone(l), i, i+1)
		orders(rest, func(others []api.Pair) { yield(append([]api.Pair{first}, others...)) })
	}
}

// In whatever order all keys are dropped: the digest is that of the others each time, and nothing is occupied at the end.
func TestDropsOfAllKeysInAnyOrder(t *testing.T) {
	for _, keys := range [][]api.Path{{keyZ}, {keyZ, keyY}, {keyZ, keyO}, {keyZ, keyO, keyX, keyY}, {keyN, flip(keyN, 255), flip(keyN, 3), keyZ, scattered(1)}} {
		l := of(keys...)
		orders(l, func(order []api.Pair) {
			s := fresh(t, 1500)
			root := all(t, s, 0, l)
			for i, p := range order {
				root = remove(t, s, root, p.Key)
				rooted(t, fmt.Sprint(len(keys), " keys"), s, root, order[i+1:], min(root, 1))
			}
			if root != 0 || s.Occupied() != 0 {
				t.Errorf("%d keys: the root is %d, %d slots are occupied", len(keys), root, s.Occupied())
			}
		})
	}
}

// Drops of two keys, in either order, lead to the same digest.
func TestTwoDrops(t *testing.T) {
	l := append(many(20, scattered), many(3, near)...)
	s := fresh(t, 4000)
	root := all(t, s, 0, l)
	for _, a := range l[10:] {
		for _, b := range l[15:] {
			if a.Key == b.Key {
				continue
			}
			hold(t, s, root)
			hold(t, s, root)
			one := remove(t, s, remove(t, s, root, a.Key), b.Key)
			two := remove(t, s, remove(t, s, root, b.Key), a.Key)
			rooted(t, "a, b", s, one, besides(besides(l, a.Key), b.Key), 1)
			if s.Digest(one) != s.Digest(two) {
				t.Errorf("%x and %x: %x and %x", a.Key, b.Key, s.Digest(one), s.Digest(two))
			}
			letGo(t, s, one)
			letGo(t, s, two)
		}
	}
}

// A Put of a key that was not there, and its Drop, lead back: to the digest, and to as many nodes.
func TestPutAndDrop(t *testing.T) {
	bases := [][]api.Pair{nil, of(keyZ), of(keyN), of(keyZ, keyO), of(keyZ, keyY), of(keyZ, keyX, keyY), many(40, scattered), many(20, near), many(256, ladder)}
	for _, l := range bases {
		s := fresh(t, 3000)
		root := all(t, s, 0, l)
		digest, occupied := s.Digest(root), s.Occupied()
		var keys []api.Path
		for d := range 256 {
			keys = append(keys, flip(keyZ, d), flip(keyN, d), flip(scattered(7), d))
		}
		for _, key := range append(keys, keyZ, keyN, scattered(77)) {
			if _, there := valueOf(l, key); there {
				continue
			}
			root = write(t, s, root, key, noise(6))
			root = remove(t, s, root, key)
			if s.Digest(root) != digest || s.Occupied() != occupied || s.Held(root) != min(root, 1) {
				t.Fatalf("%d keys: behind %x the digest is %x, not %x; %d slots are occupied, not %d", len(l), key, s.Digest(root), digest, s.Occupied(), occupied)
			}
			absent(t, s, root, key)
		}
		alone(t, "put and dropped", s, root)
		rooted(t, "put and dropped", s, root, l, min(root, 1))
	}
}

// A Drop of a key, and a Put of what it had, lead back as well.
func TestDropAndPut(t *testing.T) {
	for name, key := range kinds {
		s := fresh(t, 6000)
		l := many(100, key)
		root := all(t, s, 0, l)
		digest, occupied := s.Digest(root), s.Occupied()
		for _, p := range l {
			root = remove(t, s, root, p.Key)
			root = write(t, s, root, p.Key, p.Value)
			if s.Digest(root) != digest || s.Occupied() != occupied {
				t.Fatalf("%s: the digest is %x, not %x; %d slots are occupied, not %d", name, s.Digest(root), digest, s.Occupied(), occupied)
			}
		}
	}
}

// The greatest room, filled until one key has no room any more; then some slots become free, and all keys are dropped.
func TestGreatestRoom(t *testing.T) {
	if testing.Short() {
		t.Skip("it takes some seconds")
	}
	s := fresh(t, api.MaxNodes)
	var spare []int
	for range 300 {
		spare = append(spare, leaf(t, s, keyN, nil))
	}
	root, n := 0, 0
	for put.Fits(s, 1) {
		root = write(t, s, root, scattered(n), noise(n%3))
		n++
	}
	full(t, s, root, scattered(0))
	full(t, s, root, scattered(n))
	for _, h := range spare {
		letGo(t, s, h)
	}
	absent(t, s, root, scattered(n))
	for i := range n {
		root = remove(t, s, root, scattered(i))
	}
	if root != 0 || s.Occupied() != 0 {
		t.Errorf("the root is %d, %d slots are occupied", root, s.Occupied())
	}
}

// As many entries as node.Root takes: the digest is the root of those that are left.
func TestManyEntries(t *testing.T) {
	s := fresh(t, 30000)
	l := many(api.MaxEntries, scattered)
	root := all(t, s, 0, l)
	numbers := chance(3)
	numbers.shuffle(l)
	for i := range l {
		if i%400 == 0 {
			want, _ := node.Root(l[i:])
			if s.Digest(root) != want || s.Size(root) != len(l)-i {
				t.Fatalf("%d dropped: the digest is %x, not %x", i, s.Digest(root), want)
			}
			alone(t, "dropped", s, root)
		}
		root = remove(t, s, root, l[i].Key)
	}
	if root != 0 || s.Occupied() != 0 {
		t.Errorf("the root is %d, %d slots are occupied", root, s.Occupied())
	}
}

// stuck sees that Drop is refused, as a node can't be held once more, and that nothing is changed; Cost tells how many nodes it would make.
func stuck(t testing.TB, when string, s *store.Store, root int, key api.Path, cost int) {
	t.Helper()
	before := rows(s)
	if h, there, e := drop.Drop(s, root, key); h != 0 || there || e != api.ErrLong {
		t.Errorf("%s: Drop(%d, %x) = %d, %t, %d, not ErrLong", when, root, key, h, there, e)
	}
	same(t, when, s, before)
	costs(t, s, root, key, cost)
}

// A leaf that is held as often as may be is shared all the same where the old tree lets go of it; where it does not Drop is refused.
func TestGreatestCount(t *testing.T) {
	if testing.Short() {
		t.Skip("it takes some seconds")
	}
	s := fresh(t, 1200)
	z := write(t, s, 0, keyZ, nil)
	for s.Hold(z) == api.OK {
	}
	holds := func(when string, held int) {
		t.Helper()
		if s.Held(z) != held || s.Count(z) != api.MaxCount {
			t.Fatalf("%s: Held %d, Count %d, not %d", when, s.Held(z), s.Count(z), held)
		}
	}
	root := write(t, s, z, keyY, nil)
	holds("Z, Y", api.MaxCount-1)
	if h := remove(t, s, root, keyY); h != z { // Z's leaf is the new root
		t.Fatalf("without Y: %d, not %d", h, z)
	}
	holds("without Y", api.MaxCount)
	root = write(t, s, z, keyY, nil)
	hold(t, s, root) // the node above Z's leaf stays
	stuck(t, "the leaf is the new root", s, root, keyY, 0)
	absent(t, s, root, keyX)
	y := remove(t, s, root, keyZ) // Y's leaf is the new root
	rooted(t, "Y", s, y, []api.Pair{{Key: keyY}}, 1)
	letGo(t, s, y)

	low := api.Path{0: 32} // parts from Z at the bit 2
	root = all(t, s, root, []api.Pair{{Key: keyX}, {Key: low}})
	holds("Z, Y, X, low", api.MaxCount-1)
	root = remove(t, s, root, low) // Z's leaf goes up one step
	holds("without low", api.MaxCount-1)
	rooted(t, "Z, Y, X", s, root, []api.Pair{{Key: keyZ}, {Key: keyY}, {Key: keyX}}, 1)
	root = write(t, s, root, low, nil)
	top, _ := s.Sides(root)
	deep, _ := s.Sides(top)
	for _, h := range []int{root, top, deep} { // the node above Z's leaf stays: held from further up, or itself
		hold(t, s, h)
		stuck(t, "the leaf goes up", s, root, low, 2)
		letGo(t, s, h)
	}
	root = remove(t, s, root, low)

	beside := api.Path{0: 96} // parts from X at the bit 2
	root = write(t, s, root, beside, nil)
	holds("Z, Y, X, beside", api.MaxCount-1)
	top, _ = s.Sides(root)
	_, deep = s.Sides(top)
	for _, h := range []int{root, top} {
		hold(t, s, h)
		stuck(t, "the leaf is beside the way", s, root, beside, 2)
		stuck(t, "the leaf is beside the way", s, root, keyX, 2)
		letGo(t, s, h)
	}
	hold(t, s, deep) // further down than the node above Z's leaf, which goes
	root = remove(t, s, root, beside)
	holds("without beside", api.MaxCount-1)
	rooted(t, "Z, Y, X", s, root, []api.Pair{{Key: keyZ}, {Key: keyY}, {Key: keyX}}, 1)
	letGo(t, s, deep)
	root = remove(t, s, root, keyY) // the node above Z's leaf is shared, not the leaf
	holds("without Y", api.MaxCount-1)
	rooted(t, "Z, X", s, root, []api.Pair{{Key: keyZ}, {Key: keyX}}, 1)

	hold(t, s, root)
	for s.Occupied()+258 <= s.Room() {
		leaf(t, s, keyN, nil)
	}
	full(t, s, root, keyX) // no room goes ahead
}
