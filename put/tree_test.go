package put_test

import (
	"fmt"
	"slices"
	"testing"

	"rootcellar/api"
	"rootcellar/node"
	"rootcellar/put"
	"rootcellar/sha"
	"rootcellar/store"
)

// scattered keys are digests; near ones part at the last bits; a ladder's each part from the way of noughts one bit deeper.
func scattered(i int) api.Path { return api.Path(sha.Sum([]byte{byte(i), byte(i >> 8)})) }

func near(i int) api.Path { return api.Path{30: byte(i >> 8), 31: byte(i)} }

func ladder(i int) api.Path { return flip(api.Path{}, i) }

// many makes n entries with keys that a function tells.
func many(n int, key func(int) api.Path) []api.Pair {
	var l []api.Pair
	for i := range n {
		l = append(l, api.Pair{Key: key(i), Value: noise(i % 40)})
	}
	return l
}

// all puts entries one behind the other.
func all(t testing.TB, s *store.Store, root int, l []api.Pair) int {
	t.Helper()
	for _, p := range l {
		root = write(t, s, root, p.Key, p.Value)
	}
	return root
}

// reached tells the handles of a tree's nodes.
func reached(s *store.Store, h int) []int {
	if h == 0 {
		return nil
	}
	left, right := s.Sides(h)
	return append(append([]int{h}, reached(s, left)...), reached(s, right)...)
}

// slots sees which slot is a root's, and which are its sides'.
func slots(t testing.TB, s *store.Store, root, want, wantLeft, wantRight int) {
	t.Helper()
	if left, right := s.Sides(root); root != want || left != wantLeft || right != wantRight {
		t.Fatalf("the root is %d with the sides %d, %d, not %d with %d, %d", root, left, right, want, wantLeft, wantRight)
	}
}

// free sees in which order the slots that are free are taken.
func free(t testing.TB, s *store.Store, want ...int) {
	t.Helper()
	for i, slot := range want {
		if h := leaf(t, s, keyN, nil); h != slot {
			t.Fatalf("of the free slots %d is taken at %d, not %d", h, i, slot)
		}
	}
}

// Each node is made ahead of the one above it, and the old root is let go behind all of them.
func TestWhichSlotsAreTaken(t *testing.T) {
	s := fresh(t, 600)
	root := write(t, s, 0, keyZ, nil)
	slots(t, s, root, 1, 0, 0)
	root = write(t, s, root, keyY, nil) // Y's leaf 2
	slots(t, s, root, 3, 1, 2)
	root = write(t, s, root, keyX, nil) // X's leaf 4, the node of Z and X 5; 3 becomes free
	slots(t, s, root, 6, 5, 2)
	slots(t, s, 5, 5, 1, 4)
	root = write(t, s, root, keyZ, noise(1)) // Z's leaf 3, the node of Z and X 7; 6, 5, 1 become free
	slots(t, s, root, 8, 7, 2)
	slots(t, s, 7, 7, 3, 4)
	root = write(t, s, root, keyY, noise(1)) // Y's leaf 1; 8, 2 become free
	slots(t, s, root, 5, 7, 1)
	if !slices.Equal(s.Handles(), []int{1, 3, 4, 5, 7}) {
		t.Errorf("occupied are %v", s.Handles())
	}
	free(t, s, 2, 8, 6, 9, 10)
}

// A way that ends with another key's leaf at a depth beyond the first: the nodes between are made from the deepest up.
func TestWhichSlotsAreTakenInTheMidst(t *testing.T) {
	s := fresh(t, 600)
	root := all(t, s, 0, []api.Pair{{Key: keyZ}, {Key: keyY}})
	low := api.Path{0: 8} // parts from Z at the bit 4
	root = write(t, s, root, low, nil)
	slots(t, s, root, 9, 8, 2)
	slots(t, s, 8, 8, 7, 0)
	slots(t, s, 7, 7, 6, 0)
	slots(t, s, 6, 6, 5, 0)
	slots(t, s, 5, 5, 1, 4)
	free(t, s, 3, 10)
	right := flip(keyY, 3)
	root = write(t, s, root, right, nil) // its leaf 11, depth 3 12, depth 2 13, depth 1 14
	slots(t, s, root, 15, 8, 14)
	slots(t, s, 14, 14, 13, 0)
	slots(t, s, 13, 13, 12, 0)
	slots(t, s, 12, 12, 2, 11)
	free(t, s, 9, 16)
	root = write(t, s, root, flip(keyZ, 2), nil) // ends with nothing at the depth 3: its leaf 17
	slots(t, s, root, 20, 19, 14)
	slots(t, s, 19, 19, 18, 0)
	slots(t, s, 18, 18, 6, 17)
	free(t, s, 7, 8, 15, 21)
}

// The longest ways: Z and O, and the same at the other end.
func TestWhichSlotsAreTakenOnTheLongestWay(t *testing.T) {
	for _, pair := range [][2]api.Path{{keyZ, keyO}, {keyO, keyZ}, {keyN, flip(keyN, 255)}, {flip(keyN, 255), keyN}} {
		s := fresh(t, 600)
		root := all(t, s, 0, []api.Pair{{Key: pair[0]}, {Key: pair[1]}})
		if root != 258 || s.Occupied() != 258 {
			t.Fatalf("the root is %d, %d slots are occupied", root, s.Occupied())
		}
		for d, h := 0, root; d < 256; d++ {
			if s.Depth(h) != d || h != 258-d {
				t.Fatalf("at depth %d stands %d, of depth %d", d, h, s.Depth(h))
			}
			left, right := s.Sides(h)
			h = left + right
			if d == 255 && (left != 1 || right != 2) && (left != 2 || right != 1) {
				t.Fatalf("the leaves are %d and %d", left, right)
			}
		}
		root = write(t, s, root, pair[0], noise(3)) // 259 up to 515 are made; 258 down to 3 and the old leaf become free
		if root != 515 || s.Occupied() != 258 || s.Count(2) != 1 || s.Has(1) {
			t.Fatalf("the root is %d, %d slots are occupied", root, s.Occupied())
		}
		free(t, s, 1, 3, 4, 5)
	}
}

// A leaf as a root, written with another value, and beside another key.
func TestWhichSlotsAreTakenOfALeaf(t *testing.T) {
	s := fresh(t, 600)
	root := write(t, s, 0, keyZ, nil)
	root = write(t, s, root, keyZ, noise(1))
	slots(t, s, root, 2, 0, 0)
	root = write(t, s, root, keyZ, noise(2))
	slots(t, s, root, 1, 0, 0)
	root = write(t, s, root, keyY, nil)
	slots(t, s, root, 3, 1, 2)
	other := write(t, s, 0, keyO, nil)
	slots(t, s, other, 4, 0, 0)
	free(t, s, 5)
}

// The same as the model has it, also where slots became free ahead, in an order of any kind.
func TestSlotsThatBecameFreeAhead(t *testing.T) {
	for seed := range 20 {
		c := newTwin(t, 900)
		numbers := chance(seed)
		for range 60 {
			c.leaf(keyN, nil)
		}
		for c.s.Occupied() > 20 {
			if h := int(numbers.next())%60 + 1; c.s.Has(h) {
				c.drop(h)
			}
		}
		root := 0
		for i := range 12 {
			root = c.put(root, scattered(int(numbers.next())%16), noise(i%3))
			c.compare()
		}
		root = c.put(root, flip(scattered(0), 30+seed), nil)
		c.compare()
		c.put(root, flip(scattered(1), 40-seed), nil)
		c.filled()
	}
}

// grows puts a key of which the cost is known, with the old root held besides, so that all that is made shows.
func grows(t testing.TB, s *store.Store, root int, l []api.Pair, key api.Path, value []byte, cost int) {
	t.Helper()
	costs(t, s, root, key, value, cost)
	if root != 0 {
		hold(t, s, root)
	}
	occupied, held := s.Occupied(), s.Held(root)
	next := write(t, s, root, key, value)
	if s.Occupied() != occupied+cost || cost > 258 {
		t.Fatalf("Put of %x makes %d nodes, not %d", key, s.Occupied()-occupied, cost)
	}
	if root != 0 && s.Held(root) != held-1 {
		t.Fatalf("Put of %x: callers hold the old root %d times, not %d", key, s.Held(root), held-1)
	}
	rooted(t, "the new root", s, next, with(l, key, value), 1)
	rooted(t, "the old root", s, root, l, max(held-1, 0))
	if n := drop(t, s, next); n != cost || s.Occupied() != occupied {
		t.Fatalf("with the new root %d nodes are let go, not %d", n, cost)
	}
}

// Ways that end with another key's leaf, parting at each bit, and with the key's own leaf behind it.
func TestPartingAtEachBit(t *testing.T) {
	for d := range 256 {
		for _, key := range []api.Path{keyZ, keyN, scattered(d)} {
			s := fresh(t, 1200)
			l := []api.Pair{{Key: key, Value: noise(3)}}
			root := all(t, s, 0, l)
			grows(t, s, root, l, flip(key, d), noise(2), d+2)
			grows(t, s, root, l, key, noise(2), 1)
			two := write(t, s, root, flip(key, d), noise(5))
			l = with(l, flip(key, d), noise(5))
			grows(t, s, two, l, key, noise(4), d+2)
			grows(t, s, two, l, flip(key, d), noise(4), d+2)
			if d > 0 { // another key's leaf below the top: the side that is empty there is left as it is
				three := write(t, s, two, flip(key, 0), nil)
				l = with(l, flip(key, 0), nil)
				grows(t, s, three, l, flip(flip(key, 0), d), nil, d+2)
				grows(t, s, three, l, flip(key, 0), noise(1), 2)
			}
		}
	}
}

// Ways that end with nothing, at each depth at which one may.
func TestEndsWithNothing(t *testing.T) {
	for _, key := range []api.Path{keyZ, keyN, scattered(9)} {
		s := fresh(t, 1200)
		l := []api.Pair{{Key: key, Value: noise(3)}, {Key: flip(key, 255), Value: noise(4)}}
		root := all(t, s, 0, l)
		for d := range 255 {
			grows(t, s, root, l, flip(key, d), noise(1024), d+2)
			grows(t, s, root, l, flip(flip(key, d), 255), nil, d+2)
		}
	}
	grows(t, fresh(t, 600), 0, nil, keyZ, noise(7), 1)
	grows(t, fresh(t, 258), 0, nil, keyN, nil, 1)
}

// A full ladder has both ends at each depth: leaves beside leaves, and a node beside each leaf.
func TestWritesIntoALadder(t *testing.T) {
	l := append(many(256, ladder), api.Pair{Key: keyZ, Value: noise(9)})
	s := fresh(t, 1200)
	root := all(t, s, 0, l)
	if s.Occupied() != 513 {
		t.Fatalf("%d slots are occupied", s.Occupied())
	}
	for d := range 256 {
		grows(t, s, root, l, ladder(d), noise(50), d+2)
		if d < 255 {
			grows(t, s, root, l, flip(ladder(d), d+1), nil, d+3)
			grows(t, s, root, l, flip(ladder(d), 255), nil, 257)
		}
	}
	grows(t, s, root, l, keyZ, nil, 257)
}

// How often callers hold the old root and the new one, all else being held as ahead.
func TestHoldsGoOver(t *testing.T) {
	lists := [][]api.Pair{{{Key: keyZ}}, {{Key: keyZ}, {Key: keyY}}, {{Key: keyZ}, {Key: keyO}}, many(30, scattered)}
	for _, l := range lists {
		for held := 1; held <= 4; held++ {
			for _, p := range []api.Pair{{Key: l[0].Key, Value: noise(77)}, {Key: keyX}, {Key: flip(l[0].Key, 250)}} {
				c := newTwin(t, 3000)
				root := 0
				for _, p := range l {
					root = c.put(root, p.Key, p.Value)
				}
				side := c.m.knots[root].left
				if side != 0 {
					c.hold(side) // an inner node, or a leaf, that callers hold besides
				}
				for range held - 1 {
					c.hold(root)
				}
				entries := c.m.below(root)
				next := c.put(root, p.Key, p.Value)
				if next == root || c.s.Held(next) != 1 || c.s.Held(root) != held-1 {
					t.Fatalf("held %d times: the old root %d times, the new one %d times behind it", held, c.s.Held(root), c.s.Held(next))
				}
				c.compare()
				if again := c.put(next, p.Key, p.Value); again != next || c.s.Held(next) != 1 {
					t.Fatalf("put again: %d, held %d times", again, c.s.Held(next))
				}
				c.compare()
				if held > 1 {
					rooted(t, "the old root", c.s, root, entries, held-1)
				}
				c.filled()
				c.emptied()
			}
		}
	}
}

// Put of what is there changes nothing, however often the root is held.
func TestPutOfWhatIsThere(t *testing.T) {
	for _, l := range [][]api.Pair{{{Key: keyZ}}, {{Key: keyZ, Value: noise(1024)}, {Key: keyO}}, many(100, scattered), many(50, near)} {
		s := fresh(t, 4000)
		root := all(t, s, 0, l)
		for range 3 {
			before := rows(s)
			for _, p := range l {
				costs(t, s, root, p.Key, p.Value, 0)
				if h := write(t, s, root, p.Key, p.Value); h != root {
					t.Fatalf("Put of what is there = %d, not %d", h, root)
				}
			}
			same(t, "what is there", s, before)
			hold(t, s, root)
		}
		last := s.Held(root)
		for ; last > 0; last-- {
			drop(t, s, root)
		}
		if s.Occupied() != 0 {
			t.Errorf("%d slots are occupied", s.Occupied())
		}
	}
}

// A leaf that is a side of nodes is a root by itself where a caller holds it; what goes over is that hold.
func TestLeafThatIsASide(t *testing.T) {
	c := newTwin(t, 900)
	z := c.put(0, keyZ, nil)
	c.hold(z)
	top := c.put(z, keyY, nil)
	c.compare()
	other := c.put(z, keyX, noise(2))
	c.compare()
	if c.s.Held(z) != 0 || c.s.Count(z) != 2 || c.s.Held(other) != 1 || c.s.Held(top) != 1 {
		t.Errorf("Z's leaf is held %d times, its count is %d", c.s.Held(z), c.s.Count(z))
	}
	rooted(t, "Z, Y", c.s, top, []api.Pair{{Key: keyZ}, {Key: keyY}}, 1)
	rooted(t, "Z, X", c.s, other, []api.Pair{{Key: keyZ}, {Key: keyX, Value: noise(2)}}, 1)
	refuses(t, "only nodes hold it", c.s, z, keyX, nil, api.ErrMissing)
	y := c.m.knots[top].right
	c.hold(y)
	c.put(y, keyY, noise(1)) // Y's leaf with no bytes stays where it is
	c.compare()
	rooted(t, "Z, Y", c.s, top, []api.Pair{{Key: keyZ}, {Key: keyY}}, 1)
	c.hold(z)
	c.put(z, keyO, nil)
	c.compare()
	c.filled()
	c.emptied()
}

// Many versions in one store share nodes: none that is held is changed by what is written to another one.
func TestRootsThatShareNodes(t *testing.T) {
	for name, key := range map[string]func(int) api.Path{"scattered": scattered, "near": near, "a ladder": ladder} {
		s := fresh(t, 20000)
		roots, lists := []int{0}, [][]api.Pair{nil}
		for i := range 40 {
			from := i * 7 % len(roots)
			k, v := key(i*5%23), noise(i%4)
			if roots[from] != 0 {
				hold(t, s, roots[from])
			}
			trees := map[int][]row{}
			for _, root := range roots {
				trees[root] = tree(s, root)
			}
			next := write(t, s, roots[from], k, v)
			for root, before := range trees {
				if !slices.Equal(tree(s, root), before) {
					t.Fatalf("%s: %d is another one behind a put of %d", name, root, roots[from])
				}
			}
			if at := slices.Index(roots, next); at >= 0 { // what was there
				drop(t, s, next)
				continue
			}
			roots, lists = append(roots, next), append(lists, with(lists[from], k, v))
		}
		for i, root := range roots {
			rooted(t, name, s, root, lists[i], min(root, 1))
		}
		for i := 1; i < len(roots); i += 2 { // with others gone each version is what it was
			drop(t, s, roots[i])
		}
		for i := 2; i < len(roots); i += 2 {
			rooted(t, name, s, roots[i], lists[i], 1)
			drop(t, s, roots[i])
		}
		if s.Occupied() != 0 {
			t.Errorf("%s: %d slots are occupied", name, s.Occupied())
		}
	}
}

// tree tells the nodes of a root, without how often each is held.
func tree(s *store.Store, root int) []row {
	var l []row
	for _, h := range reached(s, root) {
		r := told(s, h)
		r.count, r.held = 0, 0
		l = append(l, r)
	}
	return l
}

// Where callers hold one root alone nothing is occupied but its nodes, each held once.
func TestNothingElseIsOccupied(t *testing.T) {
	for name, key := range map[string]func(int) api.Path{"scattered": scattered, "near": near, "a ladder": ladder} {
		s := fresh(t, 6000)
		root := 0
		var l []api.Pair
		for i := range 120 {
			k, v := key(i*11%83), noise(i%5)
			occupied := s.Occupied()
			cost, _ := put.Cost(s, root, k, v)
			root = write(t, s, root, k, v)
			l = with(l, k, v)
			rooted(t, name, s, root, l, 1)
			nodes := reached(s, root)
			slices.Sort(nodes)
			if !slices.Equal(nodes, s.Handles()) || s.Occupied() > occupied+cost || cost > 258 {
				t.Fatalf("%s: %d nodes are occupied, the tree has %d", name, s.Occupied(), len(nodes))
			}
			for _, h := range nodes {
				if s.Count(h) != 1 {
					t.Fatalf("%s: %d is held %d times", name, h, s.Count(h))
				}
			}
		}
	}
}

// orders goes over all orders of entries.
func orders(l []api.Pair, yield func([]api.Pair)) {
	if len(l) < 2 {
		yield(l)
		return
	}
	for i := range l {
		first := l[i]
		rest := slices.Delete(slices.Clone(l), i, i+1)
		orders(rest, func(others []api.Pair) { yield(append([]api.Pair{first}, others...)) })
	}
}

// In whatever order entries are put: the digest is the same, and so are the nodes but for their slots.
func TestPutsInAnyOrder(t *testing.T) {
	for _, keys := range [][]api.Path{{keyZ, keyY}, {keyZ, keyO}, {keyZ, keyO, keyX, keyY}, {keyN, flip(keyN, 255), flip(keyN, 3), keyZ, scattered(1)}} {
		l := many(len(keys), func(i int) api.Path { return keys[i] })
		want, _ := node.Root(l)
		occupied := -1
		orders(l, func(order []api.Pair) {
			s := fresh(t, 1500)
			root := all(t, s, 0, order)
			if s.Digest(root) != want || occupied >= 0 && s.Occupied() != occupied {
				t.Errorf("%d keys: the digest is %x, not %x; %d slots are occupied", len(keys), s.Digest(root), want, s.Occupied())
			}
			occupied = s.Occupied()
		})
	}
	l := many(300, scattered)
	want, _ := node.Root(l)
	numbers := chance(5)
	for range 5 {
		for i := range l {
			j := (int(numbers.next())<<8 + int(numbers.next())) % (i + 1)
			l[i], l[j] = l[j], l[i]
		}
		s := fresh(t, 3000)
		if root := all(t, s, 0, l); s.Digest(root) != want {
			t.Errorf("300 keys: the digest is %x, not %x", s.Digest(root), want)
		}
	}
}

// Of two unlike keys either may be put first, whatever else is there; of one key the last one counts.
func TestTwoPuts(t *testing.T) {
	l := append(many(20, scattered), many(3, near)...)
	s := fresh(t, 4000)
	root := all(t, s, 0, l)
	keys := []api.Path{keyZ, keyO, keyX, keyY, keyN, scattered(3), flip(scattered(3), 20), scattered(900)}
	for _, a := range keys {
		for _, b := range keys {
			hold(t, s, root)
			hold(t, s, root)
			one := write(t, s, write(t, s, root, a, noise(100)), b, noise(101))
			two := write(t, s, write(t, s, root, b, noise(101)), a, noise(100))
			if (s.Digest(one) == s.Digest(two)) != (a != b) {
				t.Errorf("%x and %x: %x and %x", a, b, s.Digest(one), s.Digest(two))
			}
			rooted(t, "a, b", s, one, with(with(l, a, noise(100)), b, noise(101)), 1)
			drop(t, s, one)
			drop(t, s, two)
		}
	}
}

// A room in which one key has no room any more: whatever is put is refused, that which is there too.
func TestNoRoom(t *testing.T) {
	s := fresh(t, 600)
	l := []api.Pair{{Key: keyZ, Value: noise(1)}, {Key: keyY, Value: noise(2)}, {Key: keyO, Value: noise(3)}}
	root := all(t, s, 0, l)
	for s.Occupied() < 343 {
		leaf(t, s, keyN, nil)
	}
	for range 2 { // of a room with one slot too few, and of one that is full
		for _, r := range []int{0, root} {
			for _, p := range append(l, api.Pair{Key: keyZ}, api.Pair{Key: keyX}, api.Pair{Key: keyN, Value: noise(1024)}) {
				full(t, s, r, p.Key, p.Value)
			}
		}
		costs(t, s, root, keyZ, noise(1), 0)
		costs(t, s, root, keyZ, noise(2), 257)
		costs(t, s, root, keyN, nil, 3)
		costs(t, s, 0, keyN, nil, 1)
		for s.Occupied() < 600 {
			leaf(t, s, keyN, nil)
		}
	}
	for h := 600; s.Occupied() > 342; h-- {
		if s.Held(h) > 0 && h != root {
			drop(t, s, h)
		}
	}
	before := rows(s)
	if h := write(t, s, root, keyZ, noise(1)); h != root {
		t.Errorf("what is there: %d, not %d", h, root)
	}
	same(t, "what is there", s, before)
	root = write(t, s, root, keyX, nil)
	rooted(t, "room again", s, root, with(l, keyX, nil), 1)
}

// Rooms that just bear one key, and one that is one slot too small.
func TestLeastRooms(t *testing.T) {
	for room := 255; room <= 260; room++ {
		s := fresh(t, room)
		if room < 258 {
			full(t, s, 0, keyZ, nil)
			continue
		}
		root := write(t, s, 0, keyZ, nil)
		if room == 258 {
			full(t, s, root, keyO, nil)
			continue
		}
		root = write(t, s, root, keyO, nil) // 257 nodes more
		rooted(t, "Z, O", s, root, []api.Pair{{Key: keyZ}, {Key: keyO}}, 1)
		full(t, s, root, keyO, nil)
		if s.Occupied() != 258 {
			t.Errorf("%d slots are occupied", s.Occupied())
		}
	}
}

// The greatest room, filled by puts until one key has no room any more.
func TestGreatestRoom(t *testing.T) {
	if testing.Short() {
		t.Skip("it takes some seconds")
	}
	s := fresh(t, api.MaxNodes)
	root, n := 0, 0
	for put.Fits(s, 1) {
		root = write(t, s, root, scattered(n), noise(n%3))
		n++
	}
	full(t, s, root, scattered(n), nil)
	if s.Size(root) != n || s.Occupied() <= api.MaxNodes-258 || s.Held(root) != 1 {
		t.Errorf("%d keys: Size %d, Occupied %d", n, s.Size(root), s.Occupied())
	}
	if freed := drop(t, s, root); freed == 0 || s.Occupied() != 0 {
		t.Errorf("%d slots are occupied", s.Occupied())
	}
}

// As many entries as node.Root takes: the digest is the root of all of them.
func TestManyEntries(t *testing.T) {
	s := fresh(t, 30000)
	l := many(api.MaxEntries, scattered)
	root := all(t, s, 0, l)
	rooted(t, "4096 scattered", s, root, l, 1)
	for i := range l {
		if i%50 == 0 {
			l[i].Value = fmt.Append(nil, "written anew at ", i)
			root = write(t, s, root, l[i].Key, l[i].Value)
		}
	}
	rooted(t, "written anew", s, root, l, 1)
}

// A leaf that is held as often as may be is shared all the same where the old tree lets go of it; where it does not Put is refused.
func TestGreatestCount(t *testing.T) {
	if testing.Short() {
		t.Skip("it takes some seconds")
	}
	s := fresh(t, 1200)
	z := write(t, s, 0, keyZ, nil)
	for s.Hold(z) == api.OK {
	}
	if s.Held(z) != api.MaxCount {
		t.Fatalf("Held %d", s.Held(z))
	}
	holds := func(when string, held int) {
		t.Helper()
		if s.Held(z) != held || s.Count(z) != api.MaxCount {
			t.Fatalf("%s: Held %d, Count %d, not %d", when, s.Held(z), s.Count(z), held)
		}
	}
	l := []api.Pair{{Key: keyZ}, {Key: keyY}}
	costs(t, s, z, keyY, nil, 2)
	root := write(t, s, z, keyY, nil) // a hold goes over, the other one is the new node's
	holds("Z, Y", api.MaxCount-1)
	rooted(t, "Z, Y", s, root, l, 1)
	root = write(t, s, root, keyY, noise(1)) // the old node is gone, the new one has Z's leaf
	holds("Y written anew", api.MaxCount-1)
	root = write(t, s, root, keyX, noise(2)) // Z's leaf goes one deeper
	holds("X", api.MaxCount-1)
	l = []api.Pair{{Key: keyZ}, {Key: keyY, Value: noise(1)}, {Key: keyX, Value: noise(2)}}
	rooted(t, "Z, Y, X", s, root, l, 1)
	root = write(t, s, root, keyX, noise(3)) // beside Z's leaf
	holds("X written anew", api.MaxCount-1)
	l = with(l, keyX, noise(3))
	rooted(t, "X written anew", s, root, l, 1)

	low, _ := s.Sides(root)
	for _, h := range []int{root, low} { // the node above Z's leaf stays: held from further up, or itself
		hold(t, s, h)
		refuses(t, "beside it", s, root, keyX, nil, api.ErrLong)
		refuses(t, "below it", s, root, keyO, nil, api.ErrLong)
		refuses(t, "a value too long", s, root, keyO, noise(1025), api.ErrLong)
		costs(t, s, root, keyX, noise(3), 0)
		if h := write(t, s, root, keyX, noise(3)); h != root {
			t.Errorf("what is there: %d, not %d", h, root)
		}
		drop(t, s, h)
	}
	hold(t, s, root)
	next := write(t, s, root, keyY, noise(4)) // the node above Z's leaf is shared, not the leaf
	holds("another root shares the node above", api.MaxCount-1)
	refuses(t, "the node above is another root's, too", s, next, keyX, nil, api.ErrLong)
	refuses(t, "the node above is another root's, too", s, root, keyO, nil, api.ErrLong)
	hold(t, s, next)
	mine := write(t, s, next, keyZ, noise(5)) // another leaf of Z
	holds("Z written anew", api.MaxCount-1)
	rooted(t, "Z written anew", s, mine, with(with(l, keyY, noise(4)), keyZ, noise(5)), 1)
	rooted(t, "the root ahead", s, root, l, 1)
	rooted(t, "another root", s, next, with(l, keyY, noise(4)), 1)

	for s.Occupied()+258 <= s.Room() {
		leaf(t, s, keyN, nil)
	}
	full(t, s, next, keyX, nil) // no room goes ahead
	if n, e := put.Cost(s, next, keyX, nil); n != 0 || e != api.ErrLong {
		t.Errorf("Cost = %d, %d", n, e)
	}
}
