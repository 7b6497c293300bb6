package batch_test

import (
	"fmt"
	"maps"
	"slices"
	"testing"

	"rootcellar/api"
	"rootcellar/batch"
	"rootcellar/node"
	"rootcellar/store"
)

// row is all that a store tells of a handle.
type row struct {
	handle, depth, left, right, size, count, held int
	kind                                          api.Kind
	key                                           api.Path
	value                                         string
	digest                                        api.Hash
}

func told(s *store.Store, h int) row {
	left, right := s.Sides(h)
	return row{
		handle: h, depth: s.Depth(h), left: left, right: right, size: s.Size(h), count: s.Count(h), held: s.Held(h),
		kind: s.Kind(h), key: s.Key(h), value: string(s.Value(h)), digest: s.Digest(h),
	}
}

// rows tells all of a store's nodes, by rising handle.
func rows(s *store.Store) []row {
	var l []row
	for _, h := range s.Handles() {
		l = append(l, told(s, h))
	}
	return l
}

// same sees that a store is what it was.
func same(t testing.TB, when string, s *store.Store, before []row) {
	t.Helper()
	if after := rows(s); !slices.Equal(after, before) {
		t.Fatalf("%s: the store is another one behind it: of %d nodes\n%v\nnot\n%v", when, len(after), after, before)
	}
}

// below tells the entries below a handle, by rising key.
func below(s *store.Store, h int) []api.Pair {
	switch s.Kind(h) {
	case api.Leaf:
		return []api.Pair{{Key: s.Key(h), Value: s.Value(h)}}
	case api.Inner:
		left, right := s.Sides(h)
		return append(below(s, left), below(s, right)...)
	}
	return nil
}

// nodes tells a tree's nodes by what the chapter goes by: a leaf's key and value, an inner node's depth and entries.
func nodes(s *store.Store, root int) map[string]int {
	l := map[string]int{}
	name(s, root, l)
	return l
}

// name puts a tree's nodes by their names into a map, and tells its entries as a text.
func name(s *store.Store, h int, l map[string]int) string {
	var entries, depth string
	switch s.Kind(h) {
	case api.Empty:
		return ""
	case api.Leaf:
		key := s.Key(h)
		entries = string(key[:]) + fmt.Sprintf(" %x ", s.Value(h))
		depth = "a leaf "
	case api.Inner:
		left, right := s.Sides(h)
		entries = name(s, left, l) + name(s, right, l)
		depth = fmt.Sprint("depth ", s.Depth(h), " ")
	}
	if _, there := l[depth+entries]; there {
		panic("a tree has two nodes of one name")
	}
	l[depth+entries] = h
	return entries
}

// trial is a store with how often callers hold each of its nodes, by what was asked for.
type trial struct {
	t    testing.TB
	s    *store.Store
	held map[int]int
}

func newTrial(t testing.TB, room int) *trial {
	t.Helper()
	return &trial{t, fresh(t, room), map[int]int{}}
}

// call says that callers hold a node so often more; of nothing there is nothing to hold.
func (c *trial) call(h, more int) {
	if c.held[h] += more; h == 0 || c.held[h] == 0 {
		delete(c.held, h)
	}
}

func (c *trial) leaf(key api.Path, value []byte) int {
	c.t.Helper()
	h := leaf(c.t, c.s, key, value)
	c.call(h, 1)
	return h
}

func (c *trial) hold(h int) {
	c.t.Helper()
	hold(c.t, c.s, h)
	c.call(h, 1)
}

func (c *trial) letGo(h int) {
	c.t.Helper()
	letGo(c.t, c.s, h)
	c.call(h, -1)
}

// refusal tells Apply's error in the chapter's words.
func (c *trial) refusal(root int, l []api.Write) api.Errno {
	long := func(w api.Write) bool { return !w.Gone && len(w.Value) > 1024 }
	switch {
	case len(l) > 64 || slices.ContainsFunc(l, long):
		return api.ErrLong
	case root != 0 && !c.s.Has(root):
		return api.ErrMissing
	case c.s.Kind(root) == api.Inner && c.s.Depth(root) != 0:
		return api.ErrArg
	case root != 0 && c.held[root] == 0:
		return api.ErrMissing
	case c.s.Occupied()+258*len(ordered(l)) > c.s.Room():
		return api.ErrStoreFull
	}
	return api.OK
}

// apply asks for what may be refused, or not, and holds all that is to be seen behind it against the chapter's words.
func (c *trial) apply(root int, l []api.Write) int {
	c.t.Helper()
	want := c.refusal(root, l)
	before, old, was, kept := rows(c.s), nodes(c.s, root), below(c.s, root), c.besides(root)
	in, whole := spacious(l)
	handed := texts(whole)
	next, e := batch.Apply(c.s, root, in)
	if e != want {
		c.t.Fatalf("Apply(%d, %d writes) = %d, %d, not %d", root, len(l), next, e, want)
	}
	if texts(whole) != handed {
		c.t.Fatalf("Apply(%d, %d writes) changes what it was handed, or its spare room", root, len(l))
	}
	for i := range whole { // it is not looked at later
		spoil(whole[i].Value)
		whole[i] = api.Write{}
	}
	if e != api.OK {
		if next != 0 {
			c.t.Fatalf("Apply(%d, %d writes) = %d, %d", root, len(l), next, e)
		}
		same(c.t, "refused", c.s, before)
		return 0
	}
	c.call(root, -1)
	c.call(next, 1)
	entries := overridden(was, l)
	c.rooted(next, entries)
	c.shares(next, kept, old)
	c.sound()
	if grown := c.s.Occupied() - len(before); grown > 258*len(ordered(l)) {
		c.t.Fatalf("Apply(%d, %d writes): %d slots more are occupied", root, len(l), grown)
	}
	if same := slices.EqualFunc(entries, was, samePair); same != (next == root) {
		c.t.Fatalf("Apply(%d, %d writes) = %d, but it is %t that nothing changes", root, len(l), next, same)
	}
	return next
}

// reached tells the nodes that are held, themselves or from further up.
func (c *trial) reached() map[int]row {
	l := map[int]row{}
	for next := slices.Collect(maps.Keys(c.held)); len(next) > 0; {
		h := next[0]
		next = next[1:]
		if _, there := l[h]; h != 0 && !there {
			l[h] = told(c.s, h)
			next = append(next, l[h].left, l[h].right)
		}
	}
	return l
}

// besides tells the nodes that are held if callers hold a root once less.
func (c *trial) besides(root int) map[int]row {
	if c.held[root] == 0 {
		return c.reached()
	}
	c.call(root, -1)
	defer c.call(root, 1)
	return c.reached()
}

// rooted sees that a handle's digest is the root of these entries, Size of them, and that callers hold it as often as was asked for.
func (c *trial) rooted(root int, l []api.Pair) {
	c.t.Helper()
	want, e := node.Root(l)
	if e != api.OK || c.s.Digest(root) != want || c.s.Size(root) != len(l) || c.s.Held(root) != c.held[root] || c.s.Root(root) != api.OK {
		c.t.Fatalf("%d is %x, Size %d, Held %d, Root %d, not %x, %d, %d (%d)", root, c.s.Digest(root), c.s.Size(root), c.s.Held(root), c.s.Root(root), want, len(l), c.held[root], e)
	}
	if got := below(c.s, root); !slices.EqualFunc(got, l, samePair) {
		c.t.Fatalf("below %d are %v, not %v", root, got, l)
	}
}

// shares holds which nodes of the old tree the new one has against the chapter's section 'Words', and sees that what is kept besides stays as it is.
func (c *trial) shares(next int, kept map[int]row, old map[string]int) {
	c.t.Helper()
	for name, h := range nodes(c.s, next) {
		there := old[name]
		if there != 0 && h != there {
			c.t.Fatalf("%d of the new tree should be %d of the old one: %q", h, there, name)
		}
		if _, was := kept[h]; there == 0 && was { // in a slot of the old tree that is let go of a new node may lie
			c.t.Fatalf("%d of the new tree should be a new node: %q", h, name)
		}
	}
	for h, r := range kept {
		now := told(c.s, h)
		if now.count, now.held = r.count, r.held; now != r {
			c.t.Fatalf("%d is another node behind it: %v, not %v", h, now, r)
		}
	}
}

// sound sees that callers hold each node as often as was asked for, that counts add up, and that no slot is occupied but by what is held.
func (c *trial) sound() {
	c.t.Helper()
	sides := map[int]int{}
	for _, h := range c.s.Handles() {
		left, right := c.s.Sides(h)
		sides[left]++
		sides[right]++
	}
	for _, h := range c.s.Handles() {
		if c.s.Held(h) != c.held[h] || c.s.Count(h) != c.held[h]+sides[h] {
			c.t.Fatalf("%d: Held %d, Count %d, not %d, %d", h, c.s.Held(h), c.s.Count(h), c.held[h], c.held[h]+sides[h])
		}
	}
	if reached := len(c.reached()); c.s.Occupied() != reached {
		c.t.Fatalf("%d slots are occupied, but callers hold %d nodes in all", c.s.Occupied(), reached)
	}
}

// emptied drops all that callers hold: then no slot is occupied.
func (c *trial) emptied() {
	c.t.Helper()
	for h, n := range c.held {
		for range n {
			letGo(c.t, c.s, h)
		}
	}
	if c.s.Occupied() != 0 || len(c.s.Handles()) != 0 {
		c.t.Fatalf("callers hold nothing, but %d slots are occupied", c.s.Occupied())
	}
	c.held = map[int]int{}
}

// heldOnes tells the handles that callers hold, and 0.
func (c *trial) heldOnes() []int { return append([]int{0}, slices.Sorted(maps.Keys(c.held))...) }

// batch tells writes of a tree's keys and of others, some of them more than once, some of what is there already.
func (c *trial) batch(root, n int, numbers *chance) []api.Write {
	l := numbers.writes(n, pool())
	there := below(c.s, root)
	for i := range l {
		if len(there) == 0 || numbers.next() < 80 {
			continue
		}
		p := there[int(numbers.next())%len(there)]
		if l[i].Key = p.Key; numbers.next() < 60 {
			l[i].Value = p.Value
		}
	}
	return l
}

// step does what four bytes say.
func (c *trial) step(what, x, y, z byte) {
	c.t.Helper()
	numbers := chance(uint32(x)<<16 + uint32(y)<<8 + uint32(z))
	roots := c.heldOnes()
	root := roots[int(x)%len(roots)]
	if other := roots[int(z)%len(roots)]; what >= 64 && c.s.Size(other) > c.s.Size(root) {
		root = other // the greater one mostly, so that trees grow
	}
	if c.s.Occupied()+258 > c.s.Room() && what%4 > 0 {
		what = 4 // what has no room is asked for often enough
	}
	n := (c.s.Room() - c.s.Occupied()) / 258 // as many keys as there is room for
	switch what % 16 {
	case 0:
		c.apply(int(x)<<8>>(what>>4)+int(z)-2, c.batch(0, int(y)%4, &numbers)) // a handle that mostly is none, or none that a caller holds
	case 1:
		c.apply(root, c.batch(root, int(y)%70, &numbers))
	case 2:
		if h := int(x) + 1; c.s.Has(h) && what >= 128 {
			c.hold(h)
		}
	case 3:
		if root != 0 {
			c.hold(root)
		}
	case 4:
		if root = roots[int(x)%len(roots)]; root != 0 {
			c.letGo(root)
		}
	case 5:
		if c.s.Occupied() < c.s.Room() {
			c.leaf(pool()[int(y)%len(pool())], noise(int(z)%9))
		}
	case 6:
		c.apply(root, deletes(c.batch(root, int(y)%(n+2), &numbers)))
	case 7:
		l := append(c.batch(root, int(y)%(n+1), &numbers), gone(keyZ))
		l[0].Value = noise(1024 + int(z)%2) // of one that is Gone, or not
		c.apply(root, l)
	default:
		c.apply(root, c.batch(root, int(y)%(n+2), &numbers))
	}
	c.sound()
}

func TestScripts(t *testing.T) {
	steps := 300
	if testing.Short() {
		steps = 60
	}
	for _, room := range []int{257, 258, 259, 300, 516, 600, 1300, 3000, 8000, 17000} {
		for seed := range 2 {
			c := newTrial(t, room)
			numbers := chance(100*room + seed)
			for range steps {
				c.step(numbers.next(), numbers.next(), numbers.next(), numbers.next())
			}
			c.emptied()
		}
	}
}

func FuzzScript(f *testing.F) {
	f.Add(byte(80), []byte{11, 0, 1, 0, 11, 1, 4, 0, 11, 1, 2, 3, 3, 1, 0, 0, 6, 1, 4, 3})
	f.Add(byte(90), []byte{11, 0, 9, 0, 11, 1, 8, 0, 11, 1, 9, 3, 4, 1, 0, 0, 7, 0, 8, 1})
	f.Add(byte(250), noise(120))
	f.Fuzz(func(t *testing.T, room byte, steps []byte) {
		c := newTrial(t, 256+20*int(room))
		steps = steps[:min(len(steps), 120)] // longer scripts show no more, and take long
		for ; len(steps) >= 4; steps = steps[4:] {
			c.step(steps[0], steps[1], steps[2], steps[3])
		}
		c.emptied()
	})
}
