package batch_test

import (
	"fmt"
	"maps"
	"slices"
	"testing"

	"rootcellar/api"
	"rootcellar/batch"
	"rootcellar/drop"
	"rootcellar/node"
	"rootcellar/put"
	"rootcellar/store"
)

// grown makes a tree of so many entries, some writes at a time.
func (c *trial) grown(l []api.Write) int {
	c.t.Helper()
	root := 0
	for part := range slices.Chunk(l, 64) {
		root = c.apply(root, part)
	}
	return root
}

// both has a batch applied where callers hold the old root alone, and where they hold it besides; all that both lead to is held against the chapter's words by apply.
func both(t testing.TB, room int, old, l []api.Write) {
	t.Helper()
	c := newTrial(t, room)
	root := c.grown(old)
	if root != 0 {
		c.hold(root)
	}
	before := rows(c.s)
	next := c.apply(root, l)
	if next != 0 && next != root {
		c.letGo(next)
		same(t, "the new root is let go of", c.s, c.withHeld(before, root, -1))
	} else if next == root && root != 0 {
		c.letGo(root)
	}
	c.apply(root, l)
	c.emptied()
}

// withHeld tells rows as if callers held one of them so often more.
func (c *trial) withHeld(l []row, h, more int) []row {
	for i := range l {
		if l[i].handle == h {
			l[i].held += more
			l[i].count += more
		}
	}
	return l
}

// Two keys that part at each bit: from nothing, from one of them, and back.
func TestTwoKeysThatPartAtEachBit(t *testing.T) {
	for d := range 256 {
		key := []api.Path{keyZ, keyN, scattered(d)}[d%3]
		a, b := set(key, 1), set(flip(key, d), 2)
		both(t, 1200, nil, []api.Write{a, b})
		both(t, 1200, []api.Write{a}, []api.Write{b})
		both(t, 1200, []api.Write{a}, []api.Write{b, set(key, 5)})
		both(t, 1200, []api.Write{a}, []api.Write{b, gone(key)})
		both(t, 1200, []api.Write{a, b}, []api.Write{gone(b.Key)})
		both(t, 1200, []api.Write{a, b}, []api.Write{gone(b.Key), gone(a.Key)})
		both(t, 1200, []api.Write{a, b}, []api.Write{set(b.Key, 7), a})
	}
}

// A leaf that goes up and one that goes down, in one batch; inner nodes that stay beside what is gone.
func TestLeavesGoUpAndDown(t *testing.T) {
	for d := 1; d < 255; d += 3 {
		for _, e := range []int{0, d / 2, d - 1} {
			key := []api.Path{keyZ, keyN, scattered(d)}[d%3]
			low, high := flip(key, d), flip(key, e)
			old := []api.Write{set(key, 1), set(low, 2), set(high, 3)}
			both(t, 2500, old, []api.Write{gone(low), set(flip(high, 255), 4)})
			both(t, 2500, old, []api.Write{gone(high), gone(low)})
			both(t, 2500, old, []api.Write{gone(high), set(flip(key, 255), 4)})
			both(t, 2500, old, []api.Write{gone(low), gone(key), set(flip(low, 255), 5)})
			both(t, 2500, old, []api.Write{gone(high)}) // an inner node alone on its side
			both(t, 2500, old, []api.Write{set(key, 1), set(low, 9), gone(flip(low, 255))})
		}
	}
}

// Which nodes are shared, by hand: of Z, low, X, Y.
func TestWhichNodesAreShared(t *testing.T) {
	s := fresh(t, 3000)
	low := api.Path{0: 32} // parts from Z at the bit 2
	root := apply(t, s, 0, set(keyZ, 1), set(low, 2), set(keyX, 3), set(keyY, 4))
	side, y := s.Sides(root)
	deep, x := s.Sides(side)
	z, l := s.Sides(deep)
	for when, c := range map[string]struct {
		l      []api.Write
		shared []int // those of the old tree that the new one has
		made   int   // how many it has besides
	}{
		"Y's value":                 {[]api.Write{set(keyY, 9)}, []int{side, deep, x, z, l}, 2},
		"Y gone":                    {[]api.Write{gone(keyY)}, []int{side, deep, x, z, l}, 1},
		"X gone":                    {[]api.Write{gone(keyX)}, []int{deep, z, l, y}, 2},
		"X and Y gone":              {[]api.Write{gone(keyX), gone(keyY)}, []int{deep, z, l}, 2},
		"low gone":                  {[]api.Write{gone(low)}, []int{z, x, y}, 2},
		"low and X gone":            {[]api.Write{gone(low), gone(keyX)}, []int{z, y}, 1},
		"low, X and Y gone":         {[]api.Write{gone(low), gone(keyX), gone(keyY)}, []int{z}, 0},
		"all gone":                  {[]api.Write{gone(low), gone(keyX), gone(keyY), gone(keyZ)}, nil, 0},
		"Z, low and X gone":         {[]api.Write{gone(low), gone(keyX), gone(keyZ)}, []int{y}, 0},
		"low written as it is":      {[]api.Write{set(low, 2), set(keyX, 9)}, []int{deep, z, l, y}, 3},
		"Z and low as they are":     {[]api.Write{set(low, 2), set(keyZ, 1), set(keyY, 9)}, []int{side, deep, z, l, x}, 2},
		"absent ones gone":          {[]api.Write{gone(keyO), gone(keyN), set(keyY, 9)}, []int{side, deep, z, l, x}, 2},
		"a value and back":          {[]api.Write{set(keyZ, 9), set(keyZ, 1), set(keyY, 9)}, []int{side, deep, z, l, x}, 2},
		"gone and back":             {[]api.Write{gone(keyZ), set(keyZ, 1), gone(keyY)}, []int{side, deep, z, l, x}, 1},
		"O beside Z":                {[]api.Write{set(keyO, 9)}, []int{z, l, x, y}, 257},
		"O beside Z, low gone":      {[]api.Write{set(keyO, 9), gone(low)}, []int{z, x, y}, 257},
		"a key beside Y":            {[]api.Write{set(flip(keyY, 1), 9)}, []int{side, deep, z, l, x, y}, 3},
		"all values":                {[]api.Write{set(keyZ, 9), set(low, 9), set(keyX, 9), set(keyY, 9)}, nil, 7},
		"Y's value and another key": {[]api.Write{set(keyY, 9), set(keyN, 9)}, []int{side, deep, z, l, x}, 4},
	} {
		hold(t, s, root)
		occupied := s.Occupied()
		next := apply(t, s, root, c.l...)
		var shared []int
		all := 0
		for _, h := range nodes(s, next) {
			if all++; h == root || slices.Contains([]int{side, deep, x, y, z, l}, h) {
				shared = append(shared, h)
			}
		}
		slices.Sort(shared)
		slices.Sort(c.shared)
		if !slices.Equal(shared, c.shared) || all-len(shared) != c.made || s.Occupied() != occupied+c.made {
			t.Errorf("%s: %v are shared, %d are made, %d slots more are occupied, not %v, %d", when, shared, all-len(shared), s.Occupied()-occupied, c.shared, c.made)
		}
		if next != 0 {
			letGo(t, s, next)
		}
	}
	for when, l := range map[string][]api.Write{
		"none": nil, "as it is": {set(keyZ, 1), set(low, 2), set(keyX, 3), set(keyY, 4)}, "absent": {gone(keyO), gone(keyN)},
		"and back": {set(keyZ, 9), gone(keyZ), set(keyZ, 1), set(keyN, 9), gone(keyN)}, "one": {set(keyY, 4)},
	} {
		unchanged(t, when, s, root, l...)
	}
}

// bases are trees to which batches are applied: none, a leaf, few keys, many.
func bases() [][]api.Write {
	return [][]api.Write{
		nil, {set(keyZ, 1)}, {set(keyN, 1)}, {set(keyZ, 1), set(keyY, 2)}, {set(keyZ, 1), set(keyO, 2)},
		{set(keyZ, 1), set(keyX, 2), set(keyY, 3)}, many(40, scattered), many(20, near), many(100, ladder),
	}
}

// Batches to trees of each kind: new keys, keys gone, both, what is there already, and what is not there.
func TestBatchesToTrees(t *testing.T) {
	numbers := chance(11)
	for _, old := range bases() {
		some := old[:min(len(old), 30)]
		changed := cloned(some)
		for i := range changed {
			changed[i].Value = noise(50 + i)
		}
		half := append(cloned(changed[:len(changed)/2]), deletes(some[len(some)/2:])...)
		var absent []api.Write
		for i := range 30 {
			absent = append(absent, gone(flip(scattered(i), 240)))
		}
		lists := [][]api.Write{
			nil, some, changed, deletes(some), half, absent, many(64, scattered), many(64, near), many(64, ladder),
			append(deletes(some), many(30, near)...), append(cloned(changed), deletes(changed)...), append(deletes(some), changed...),
			append(cloned(some), absent...),
		}
		for range 4 {
			lists = append(lists, numbers.writes(64, pool()))
		}
		for _, l := range lists {
			both(t, 60000, old, l)
			slices.Reverse(l)
			both(t, 60000, old, l)
		}
	}
}

// Batches that delete all keys of a tree, few or as many as a batch bears, leave nothing, whatever else they delete.
func TestAllKeysGone(t *testing.T) {
	for name, key := range kinds {
		for _, n := range []int{1, 2, 3, 30, 64} {
			c := newTrial(t, 40000)
			l := many(n, key)
			root := c.apply(0, l)
			for range 2 {
				c.hold(root)
			}
			if next := c.apply(root, deletes(l)); next != 0 || c.s.Held(root) != 2 {
				t.Errorf("%s, %d keys: %d; the old root is held %d times", name, n, next, c.s.Held(root))
			}
			slices.Reverse(l)
			c.apply(root, append(deletes(l), gone(flip(l[0].Key, 130)))[n/64:])
			c.letGo(root)
			if n < 64 && c.s.Occupied() != 0 {
				t.Errorf("%s, %d keys: %d slots are occupied", name, n, c.s.Occupied())
			}
			c.emptied()
		}
	}
}

// How often callers hold the old root and the new one: where that is new, 0, a node that was there before, the same one; all else is held as ahead.
func TestHoldsGoOver(t *testing.T) {
	old := []api.Write{set(keyZ, 1), set(keyX, 2), set(keyY, 3)}
	for when, l := range map[string][]api.Write{
		"a new root": {set(keyN, 4), gone(keyZ)}, "nothing": deletes(old), "the same one": {set(keyZ, 1), gone(keyN)}, "none": nil,
		"a leaf that was there": {gone(keyZ), gone(keyX)}, "another one": {gone(keyY), gone(keyX)}, "a new leaf": {gone(keyZ), gone(keyX), set(keyY, 9)},
	} {
		for held := 1; held <= 4; held++ {
			c := newTrial(t, 3000)
			root := c.apply(0, old)
			for range held - 1 {
				c.hold(root)
			}
			for _, h := range c.s.Handles() {
				for range (h + held) % 3 {
					if h != root {
						c.hold(h) // what callers hold besides, the leaf that goes up among it
					}
				}
			}
			before := map[int]int{}
			for _, h := range c.s.Handles() {
				before[h] = c.s.Held(h)
			}
			next := c.apply(root, l)
			for _, h := range c.s.Handles() {
				want := before[h]
				if h == root {
					want--
				}
				if h == next {
					want++
				}
				if c.s.Held(h) != want {
					t.Fatalf("%s, held %d times: callers hold %d %d times, not %d", when, held, h, c.s.Held(h), want)
				}
			}
			if held > 1 || next == root {
				c.rooted(root, overridden(nil, old))
			}
			if c.s.Has(root) != (held > 1 || next == root) {
				t.Fatalf("%s, held %d times: the old root is there: %t", when, held, c.s.Has(root))
			}
			c.emptied()
		}
	}
}

// To 0, as often as it may be asked for: each time a root of its own, held once.
func TestApplyToNothing(t *testing.T) {
	c := newTrial(t, 9000)
	var roots []int
	for range 5 {
		root := c.apply(0, []api.Write{set(keyZ, 1), set(keyY, 2)})
		if slices.Contains(roots, root) || c.s.Held(root) != 1 {
			t.Errorf("to nothing: %d, held %d times", root, c.s.Held(root))
		}
		roots = append(roots, root)
	}
	if c.s.Occupied() != 15 {
		t.Errorf("%d slots are occupied", c.s.Occupied())
	}
	c.emptied()
}

// The new root is a leaf that other roots have for a side and callers hold already.
func TestNewRootThatWasThereBefore(t *testing.T) {
	c := newTrial(t, 3000)
	z := c.apply(0, []api.Write{set(keyZ, 1)})
	c.hold(z)
	c.hold(z)
	one := c.apply(z, []api.Write{set(keyY, 2), set(keyX, 3)})
	two := c.apply(z, []api.Write{set(keyO, 2)})
	if c.s.Held(z) != 1 || c.s.Count(z) != 3 {
		t.Fatalf("Z's leaf: Held %d, Count %d", c.s.Held(z), c.s.Count(z))
	}
	if h := c.apply(one, []api.Write{gone(keyY), gone(keyX)}); h != z || c.s.Held(z) != 2 || c.s.Count(z) != 3 {
		t.Errorf("without Y, X: %d, Held %d, Count %d", h, c.s.Held(z), c.s.Count(z))
	}
	c.hold(two)
	if h := c.apply(two, []api.Write{gone(keyO), set(keyZ, 1)}); h != z || c.s.Held(z) != 3 || c.s.Count(z) != 4 || c.s.Held(two) != 1 {
		t.Errorf("without O: %d, Held %d, Count %d", h, c.s.Held(z), c.s.Count(z))
	}
	if h := c.apply(z, []api.Write{gone(keyZ)}); h != 0 || c.s.Held(z) != 2 || c.s.Count(z) != 3 {
		t.Errorf("without Z: %d, Held %d, Count %d", h, c.s.Held(z), c.s.Count(z))
	}
	c.rooted(two, []api.Pair{pair(keyZ, 1), pair(keyO, 2)})
	c.emptied()
}

// tree tells the nodes of a root, without how often each is held.
func tree(s *store.Store, root int) map[string]row {
	l := map[string]row{}
	for name, h := range nodes(s, root) {
		r := told(s, h)
		r.count, r.held = 0, 0
		l[name] = r
	}
	return l
}

// Many versions in one store share nodes: none that is held is changed by what is applied to another one.
func TestRootsThatShareNodes(t *testing.T) {
	for name, key := range kinds {
		c := newTrial(t, 65536)
		numbers := chance(21)
		roots := []int{c.grown(many(40, key))}
		for i := range 15 {
			from := roots[i*7%len(roots)]
			c.hold(from)
			trees := map[int]map[string]row{}
			for _, root := range roots {
				trees[root] = tree(c.s, root)
			}
			l := c.batch(from, 1+i*3, &numbers)
			for j := range l {
				if j%3 == 0 {
					l[j].Key = key(i*11 + j)
				}
			}
			roots = append(roots, c.apply(from, l))
			for root, before := range trees {
				if !maps.Equal(tree(c.s, root), before) {
					t.Fatalf("%s: %d is another one behind a batch to %d", name, root, from)
				}
			}
		}
		digests := map[int]api.Hash{}
		for _, root := range roots {
			digests[root] = c.s.Digest(root)
		}
		for i, root := range roots { // with others gone each version is what it was
			if i%2 == 0 && root != 0 {
				c.letGo(root)
			}
		}
		for i, root := range roots {
			if want, _ := node.Root(below(c.s, root)); i%2 == 1 && (c.s.Digest(root) != want || want != digests[root]) {
				t.Errorf("%s: %d is %x, not %x", name, root, c.s.Digest(root), want)
			}
		}
		c.sound()
		c.emptied()
	}
}

// oneByOne writes by put and drop.
func oneByOne(t testing.TB, s *store.Store, root int, l []api.Write) int {
	t.Helper()
	for _, w := range l {
		next, e := 0, api.OK
		if w.Gone {
			next, _, e = drop.Drop(s, root, w.Key)
		} else {
			next, e = put.Put(s, root, w.Key, w.Value)
		}
		if e != api.OK {
			t.Fatalf("one by one: %d", e)
		}
		root = next
	}
	return root
}

// mix turns writes into another order that keeps the last one of each key.
func (c *chance) mix(l []api.Write) []api.Write {
	last := ordered(l)
	next := cloned(l)
	for i := range next {
		j := int(c.next()) % (i + 1)
		next[i], next[j] = next[j], next[i]
	}
	left := map[api.Path]int{} // how many writes of each key are to come
	for _, w := range next {
		left[w.Key]++
	}
	for i, w := range next {
		if left[w.Key]--; left[w.Key] == 0 {
			next[i] = last[slices.IndexFunc(last, func(x api.Write) bool { return x.Key == w.Key })]
		}
	}
	return next
}

// A batch leads to the digest to which its writes lead one by one, in any order that keeps the last write of each key, and in as many nodes.
func TestOneByOne(t *testing.T) {
	numbers := chance(31)
	for i := range 60 {
		s := fresh(t, 65536)
		old := bases()[i%len(bases())]
		root := oneByOne(t, s, 0, old)
		size := s.Occupied()
		keys := pool()
		for _, w := range old {
			keys = append(keys, w.Key)
		}
		l := numbers.writes(int(numbers.next())%65, keys)
		if root != 0 {
			for range 6 {
				hold(t, s, root)
			}
		}
		next := apply(t, s, root, l...)
		digest, entries := s.Digest(next), batch.Override(overridden(nil, old), l)
		if want, e := node.Root(entries); e != api.OK || digest != want || s.Size(next) != len(entries) {
			t.Fatalf("%d: the digest is %x, not %x", i, digest, want)
		}
		if next != 0 {
			letGo(t, s, next)
		}
		orders := [][]api.Write{l, batch.Order(l), numbers.mix(l), numbers.mix(l)}
		falling := batch.Order(l)
		slices.Reverse(falling)
		for j, order := range append(orders, falling) {
			if !slices.EqualFunc(ordered(order), ordered(l), sameWrite) {
				t.Fatalf("the order %d does not keep the last writes", j)
			}
			next := oneByOne(t, s, root, order)
			if s.Digest(next) != digest {
				t.Fatalf("%d: one by one in the order %d: %x, not %x", i, j, s.Digest(next), digest)
			}
			if next != 0 {
				letGo(t, s, next)
			}
			if s.Occupied() != size {
				t.Fatalf("%d: %d slots are occupied, not %d", i, s.Occupied(), size)
			}
		}
	}
}

// All orders of some writes of unlike keys lead to one digest; so does a batch of the first of them and one of the others.
func TestAllOrders(t *testing.T) {
	l := []api.Write{set(keyO, 9), gone(keyZ), set(keyX, 8), gone(keyN), set(keyY, 3)}
	s := fresh(t, 9000)
	root := apply(t, s, 0, set(keyZ, 1), set(keyX, 2), set(keyY, 3))
	hold(t, s, root)
	next := apply(t, s, root, l...)
	want := s.Digest(next)
	letGo(t, s, next)
	orders(l, func(order []api.Write) {
		for cut := range len(order) + 1 {
			hold(t, s, root)
			next := apply(t, s, apply(t, s, root, order[:cut]...), order[cut:]...)
			if s.Digest(next) != want {
				t.Fatalf("%v, parted at %d: %x, not %x", order, cut, s.Digest(next), want)
			}
			letGo(t, s, next)
		}
	})
	if s.Occupied() != 5 || s.Held(root) != 1 {
		t.Errorf("%d slots are occupied, the root is held %d times", s.Occupied(), s.Held(root))
	}
}

// orders goes over all orders of writes.
func orders(l []api.Write, yield func([]api.Write)) {
	if len(l) < 2 {
		yield(l)
		return
	}
	for i := range l {
		first := l[i]
		rest := slices.Delete(slices.Clone(l), i, i+1)
		orders(rest, func(others []api.Write) { yield(append([]api.Write{first}, others...)) })
	}
}

// As far as Occupied may grow: each key's own longest way, the old root being held besides.
func TestOccupiedGrows(t *testing.T) {
	for _, n := range []int{1, 2, 3, 32, 64} {
		var old, l []api.Write
		for i := range n {
			key := api.Path{0: byte(i << 2)} // unlike ones in their first six bits
			old, l = append(old, set(key, 1)), append(l, set(flip(key, 255), 2))
		}
		c := newTrial(t, 2*64+258*64)
		root := c.apply(0, old)
		c.hold(root)
		occupied := c.s.Occupied()
		next := c.apply(root, l)
		nodes := map[int]int{1: 257, 2: 2*251 + 6}
		if grown := c.s.Occupied() - occupied; grown > 258*n || grown < 250*n || nodes[n] != 0 && nodes[n] != grown {
			t.Errorf("%d keys: %d slots more are occupied", n, grown)
		}
		occupied = c.s.Occupied()
		if c.hold(next); c.s.Occupied()+258*n <= c.s.Room() {
			c.apply(next, deletes(l))
			if grown := c.s.Occupied() - occupied; grown > 258*n {
				t.Errorf("%d keys gone: %d slots more are occupied", n, grown)
			}
		}
		c.emptied()
	}
}

// As many entries as node.Root takes.
func TestManyEntries(t *testing.T) {
	s := fresh(t, 40000)
	root := 0
	l := many(api.MaxEntries, scattered)
	for part := range slices.Chunk(l, 64) {
		root = apply(t, s, root, part...)
	}
	for i := range 20 {
		want, _ := node.Root(overridden(nil, l))
		if s.Digest(root) != want || s.Size(root) != len(l) {
			t.Fatalf("batch %d: the digest is %x, not %x", i, s.Digest(root), want)
		}
		if nodes := len(nodes(s, root)); s.Occupied() != nodes {
			t.Fatalf("batch %d: %d slots are occupied, the tree has %d nodes", i, s.Occupied(), nodes)
		}
		root = apply(t, s, root, deletes(l[:64])...)
		l = l[64:]
	}
}

// A leaf that is held as often as may be is shared all the same where the old tree lets go of it; where it does not Apply is refused, and nothing is changed.
func TestGreatestCount(t *testing.T) {
	if testing.Short() {
		t.Skip("it takes some seconds")
	}
	s := fresh(t, 3000)
	z := apply(t, s, 0, set(keyZ, 0))
	for s.Hold(z) == api.OK {
	}
	holds := func(when string, root, held int, l ...api.Write) {
		t.Helper()
		want, _ := node.Root(overridden(nil, l))
		if s.Held(z) != held || s.Count(z) != api.MaxCount || s.Digest(root) != want || root != z && s.Held(root) != 1 {
			t.Fatalf("%s: Held %d, Count %d, not %d; the root is %x, not %x, Held %d", when, s.Held(z), s.Count(z), held, s.Digest(root), want, s.Held(root))
		}
	}
	as, x, y := set(keyZ, 0), set(keyX, 2), set(keyY, 3)
	noX, noY := gone(keyX), gone(keyY)
	unchanged(t, "as it is", s, z, as, noY)
	root := apply(t, s, z, x, y) // Z's leaf goes down two steps
	holds("Z, X, Y", root, api.MaxCount-1, as, x, y)
	unchanged(t, "as it is", s, root, as, y, gone(keyN))
	root = apply(t, s, root, noX) // up one step
	holds("Z, Y", root, api.MaxCount-1, as, y)
	if root = apply(t, s, root, noY); root != z { // it is the new root
		t.Fatalf("Z: %d, not %d", root, z)
	}
	holds("Z", root, api.MaxCount, as)

	root = apply(t, s, z, x, y)
	side, right := s.Sides(root)
	for _, h := range []int{root, side} { // the node above Z's leaf stays: held from further up, or itself
		hold(t, s, h)
		for when, l := range map[string][]api.Write{
			"Z's leaf goes up to the root": {noX, noY}, "up one step": {noX, set(keyY, 8)},
			"beside what is written": {set(keyX, 9), noY}, "down": {set(keyO, 9), noX},
		} {
			refuses(t, when, s, root, l, api.ErrLong)
		}
		unchanged(t, "as it is", s, root, as, y)
		letGo(t, s, h)
	}
	hold(t, s, right) // not above Z's leaf
	root = apply(t, s, root, noX, set(keyY, 8))
	holds("Z, Y", root, api.MaxCount-1, as, set(keyY, 8))
	letGo(t, s, right)

	hold(t, s, root)
	next := apply(t, s, root, set(keyZ, 7)) // Z's leaf is not shared
	holds("the old root", root, api.MaxCount-1, as, set(keyY, 8))
	letGo(t, s, next)
	hold(t, s, root)
	for s.Occupied()+258 <= s.Room() {
		leaf(t, s, keyN, nil)
	}
	refuses(t, "no room goes ahead", s, root, []api.Write{noY}, api.ErrStoreFull)
	unchanged(t, "none", s, root)
}

// An inner node that is held as often as may be is shared likewise.
func TestGreatestCountOfAnInnerNode(t *testing.T) {
	if testing.Short() {
		t.Skip("it takes some seconds")
	}
	s := fresh(t, 3000)
	root := apply(t, s, 0, set(keyZ, 1), set(keyX, 2), set(keyY, 3))
	side, _ := s.Sides(root)
	for s.Hold(side) == api.OK {
	}
	root = apply(t, s, root, set(keyY, 9), gone(keyN)) // the old tree lets go of it
	if left, _ := s.Sides(root); left != side || s.Count(side) != api.MaxCount || s.Held(side) != api.MaxCount-1 || s.Held(root) != 1 {
		t.Fatalf("the left side is %d, not %d: Count %d, Held %d", left, side, s.Count(side), s.Held(side))
	}
	hold(t, s, root)
	refuses(t, "the old tree keeps it", s, root, []api.Write{gone(keyY)}, api.ErrLong)
	next := apply(t, s, root, set(keyX, 7)) // its leaves are shared, not the node itself
	if left, _ := s.Sides(next); left == side || s.Count(side) != api.MaxCount || s.Held(side) != api.MaxCount-1 {
		t.Fatalf("the left side is %d: Count %d, Held %d", left, s.Count(side), s.Held(side))
	}
	if want, _ := node.Root([]api.Pair{pair(keyZ, 1), pair(keyX, 7), pair(keyY, 9)}); s.Digest(next) != want {
		t.Errorf("the digest is %x, not %x", s.Digest(next), want)
	}
}

// All batches to all trees of five keys: each one there, or not; each one not written, written, as it is or otherwise, or gone.
func TestShapes(t *testing.T) {
	keys := []api.Path{keyZ, keyO, keyX, keyY, keyN}
	for state := range 1 << len(keys) { // which keys are there
		for kind := range 243 { // of each key: not written, written, gone
			if testing.Short() && (state+kind)%7 != 0 {
				continue
			}
			c := newTrial(t, 4000)
			var old, l []api.Write
			for i, n := 0, kind; i < len(keys); i, n = i+1, n/3 {
				if state>>i&1 == 1 {
					old = append(old, set(keys[i], 1))
				}
				if n%3 > 0 {
					l = append(l, api.Write{Key: keys[i], Gone: n%3 == 2, Value: noise((i + kind) % 2)})
				}
			}
			root := c.apply(0, old)
			if root != 0 && kind%2 == 0 {
				c.hold(root)
			}
			c.apply(root, l)
			c.emptied()
		}
	}
}

func ExampleApply() {
	s, _ := store.New(2000)
	root, _ := batch.Apply(s, 0, []api.Write{{Key: api.Path{0: 128}, Value: []byte("v")}, {Key: api.Path{}}})
	fmt.Println(s.Size(root), s.Occupied())
	root, _ = batch.Apply(s, root, []api.Write{{Key: api.Path{0: 128}, Gone: true}})
	fmt.Println(s.Size(root), s.Occupied())
	// Output:
	// 2 3
	// 1 1
}
