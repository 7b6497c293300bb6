package versions_test

import (
	"bytes"
	"maps"
	"slices"
	"testing"

	"rootcellar/api"
	"rootcellar/audit"
	"rootcellar/batch"
	"rootcellar/list"
	"rootcellar/node"
	"rootcellar/sha"
	"rootcellar/store"
	"rootcellar/versions"
)

// flip turns a key's bit.
func flip(k api.Path, d int) api.Path {
	k[d/8] ^= 1 << (7 - d%8)
	return k
}

// scattered keys are digests; near ones part at the last bits; a ladder's each part from the way of noughts one bit deeper.
func scattered(i int) api.Path { return api.Path(sha.Sum([]byte{byte(i), byte(i >> 8)})) }

func near(i int) api.Path { return api.Path{30: byte(i >> 8), 31: byte(i)} }

func ladder(i int) api.Path { return flip(api.Path{}, i) }

// kinds of keys, by name.
var kinds = map[string]func(int) api.Path{"scattered": scattered, "near": near, "a ladder": ladder}

// pair are writes of two keys, many of n that a function tells.
func pair(one, two api.Path) []api.Write { return []api.Write{{Key: one}, {Key: two}} }

func many(n int, key func(int) api.Path) []api.Write {
	var l []api.Write
	for i := range n {
		l = append(l, api.Write{Key: key(i), Value: bytes.Repeat([]byte{byte(i)}, i%40)})
	}
	return l
}

// grown applies writes, some at a time.
func grown(t testing.TB, s *store.Store, root int, l ...api.Write) int {
	t.Helper()
	for part := range slices.Chunk(l, 8) {
		next, e := batch.Apply(s, root, part)
		if e != api.OK {
			t.Fatalf("Apply(%d, %d writes) = %d", root, len(part), e)
		}
		root = next
	}
	return root
}

// reached tells the nodes that roots reach.
func reached(t testing.TB, s *store.Store, roots ...int) []int {
	t.Helper()
	l, e := audit.Reached(s, roots)
	if e != api.OK {
		t.Fatalf("Reached(%v) = %d", roots, e)
	}
	return l
}

// entriesOf tells a root's entries.
func entriesOf(s *store.Store, root int) []api.Pair {
	var l []api.Pair
	for key, value := range list.All(s, root) {
		l = append(l, api.Pair{Key: key, Value: value})
	}
	return l
}

func likePairs(a, b api.Pair) bool { return a.Key == b.Key && bytes.Equal(a.Value, b.Value) }

// sound sees that a root's digest is that of its entries.
func sound(t testing.TB, when string, s *store.Store, root int) {
	t.Helper()
	if want, e := node.Root(entriesOf(s, root)); e != api.OK || s.Digest(root) != want {
		t.Fatalf("%s: the digest of %d is %x, not %x", when, root, s.Digest(root), want)
	}
}

// chance tells numbers that no pattern is seen in.
type chance uint32

func (c *chance) next() byte {
	*c = *c*1664525 + 1013904223
	return byte(*c >> 24)
}

// stand is what stands under a name in the chapter's words: a root, and what it was when it came there.
type stand struct {
	root    int
	digest  api.Hash
	entries []api.Pair
}

// trial has versions of one store and their models do the same, while callers write, hold and drop.
type trial struct {
	t      testing.TB
	s      *store.Store
	all    []*versions.Versions
	models []map[string]stand
	mine   []int // the callers' roots, each held once for each time that it stands there
	odd    []int // the callers' other nodes: inner ones that are no roots
}

func newTrial(t testing.TB, room, sets int) *trial {
	t.Helper()
	c := &trial{t: t, s: fresh(t, room)}
	for range sets {
		c.all = append(c.all, of(t, c.s))
		c.models = append(c.models, map[string]stand{})
	}
	low, e := c.s.Leaf(keyZ, nil)
	high, f := c.s.Leaf(keyX, nil)
	if e != api.OK || f != api.OK {
		t.Fatal(e, f)
	}
	c.odd = []int{inner(t, c.s, 1, low, high)}
	return c
}

// holds tells how often each handle is held by callers and versions.
func (c *trial) holds() map[int]int {
	m := map[int]int{}
	for _, h := range append(slices.Clone(c.mine), c.odd...) {
		m[h]++
	}
	for _, model := range c.models {
		for _, x := range model {
			m[x.root]++
		}
	}
	delete(m, 0)
	return m
}

// below tells how many nodes there are below handles, themselves counted, each once.
func (c *trial) below(handles map[int]int) int {
	seen := map[int]int{}
	next := slices.Collect(maps.Keys(handles))
	for len(next) > 0 {
		h := next[0]
		next = next[1:]
		if h == 0 || seen[h] > 0 {
			continue
		}
		seen[h]++
		left, right := c.s.Sides(h)
		next = append(next, left, right)
	}
	return len(seen)
}

// freed tells how many nodes are occupied beyond those that are held by what the models say.
func (c *trial) freed(before int) int { return before - c.below(c.holds()) }

// wantAdd tells Add's error in the chapter's words.
func (c *trial) wantAdd(model map[string]stand, name string, root int) api.Errno {
	_, there := model[name]
	switch {
	case !slices.Contains(trialNames, name):
		return api.ErrName
	case c.s.Root(root) != api.OK:
		return c.s.Root(root)
	case there:
		return api.ErrThere
	case len(model) == 16:
		return api.ErrVersions
	}
	return api.OK
}

func (c *trial) stand(root int) stand {
	return stand{root, c.s.Digest(root), entriesOf(c.s, root)}
}

func (c *trial) add(i int, name string, root int) {
	c.t.Helper()
	want := c.wantAdd(c.models[i], name, root)
	if want != api.OK {
		notAdd(c.t, "script", c.all[i], name, root, want)
		return
	}
	add(c.t, c.all[i], name, root)
	c.models[i][name] = c.stand(root)
}

func (c *trial) drop(i int, name string) {
	c.t.Helper()
	if _, there := c.models[i][name]; !there {
		notThere(c.t, "script", c.all[i], name)
		return
	}
	before := c.s.Occupied()
	delete(c.models[i], name)
	gone(c.t, c.all[i], name, c.freed(before))
}

func (c *trial) move(i int, name string, root int) {
	c.t.Helper()
	if _, there := c.models[i][name]; !there {
		notMove(c.t, "script", c.all[i], name, root, api.ErrMissing)
		return
	}
	if e := c.s.Root(root); e != api.OK {
		notMove(c.t, "script", c.all[i], name, root, e)
		return
	}
	before := c.s.Occupied()
	c.models[i][name] = c.stand(root)
	move(c.t, c.all[i], name, root, c.freed(before))
}

// compare holds all that the versions and the store tell against the models.
func (c *trial) compare() {
	c.t.Helper()
	for i, v := range c.all {
		names := slices.Sorted(maps.Keys(c.models[i]))
		var roots []int
		for _, name := range names {
			x := c.models[i][name]
			roots = append(roots, x.root)
			if root, e := v.Root(name); root != x.root || e != api.OK || c.s.Digest(root) != x.digest {
				c.t.Fatalf("Root(%q) = %d, %d, not %d", name, root, e, x.root)
			}
		}
		if !slices.Equal(v.Names(), names) || !slices.Equal(v.Roots(), roots) || v.Len() != len(names) || v.Store() != c.s {
			c.t.Fatalf("Names %q, Roots %v, Len %d, not %q, %v", v.Names(), v.Roots(), v.Len(), names, roots)
		}
	}
	holds := c.holds()
	for _, h := range c.s.Handles() {
		if c.s.Held(h) != holds[h] {
			c.t.Fatalf("Held(%d) = %d, not %d", h, c.s.Held(h), holds[h])
		}
	}
	if n := c.below(holds); c.s.Occupied() != n {
		c.t.Fatalf("Occupied %d, not %d", c.s.Occupied(), n)
	}
}

// kept sees that the entries of what stands under each name are those of the time when it came there.
func (c *trial) kept() {
	c.t.Helper()
	for _, model := range c.models {
		for name, x := range model {
			if !slices.EqualFunc(entriesOf(c.s, x.root), x.entries, likePairs) {
				c.t.Fatalf("%q has other entries than when it came", name)
			}
			sound(c.t, name, c.s, x.root)
		}
	}
}

// trialNames are more names than there may be at a time, and otherTexts are none.
var trialNames = []string{"a", "a-", "a-a", "a0", "aa", "b", "b-b-b", "c9", "d", "e", "f", "g", "h", "one", "two", "three", "x", "y", "z", "abcdefghijklmnopqrst"}

var otherTexts = []string{"", "2", "-", "A", "a_", "abcdefghijklmnopqrstu", "\xff"}

// name and handle tell one by a byte, now and then one that may not be.
func (c *trial) name(b byte) string {
	if b%16 == 15 {
		return otherTexts[int(b/16)%len(otherTexts)]
	}
	return trialNames[int(b)%len(trialNames)]
}

func (c *trial) handle(b byte) int {
	l := append([]int{0, -1, c.s.Room(), c.s.Room() + 1}, c.odd...)
	l = append(l, c.mine...)
	for _, model := range c.models {
		for _, name := range slices.Sorted(maps.Keys(model)) {
			l = append(l, model[name].root)
		}
	}
	for _, h := range slices.Clone(l) { // sides of roots, too: leaves that nobody but a node holds, and nodes that are no roots
		left, right := c.s.Sides(h)
		l = append(l, left, right)
	}
	return l[int(b)%len(l)]
}

// write has a caller write to one of its roots, or to a version's that it holds first.
func (c *trial) write(x, y byte) {
	c.t.Helper()
	root := c.handle(x)
	if c.s.Root(root) != api.OK {
		return
	}
	if root != 0 {
		hold(c.t, c.s, root)
	}
	keys := []func(int) api.Path{scattered, ladder, near}
	w := []api.Write{{Key: keys[int(y)%3](int(y) % 12), Value: []byte{x, y}, Gone: y%5 == 0}, {Key: scattered(int(x) % 20), Value: []byte{y}}}
	next, e := batch.Apply(c.s, root, w)
	if e == api.ErrStoreFull {
		if root != 0 {
			drop(c.t, c.s, root, 0)
		}
		return
	}
	if e != api.OK {
		c.t.Fatalf("Apply = %d", e)
	}
	c.mine = append(c.mine, next)
}

// letGo has a caller drop one of its roots.
func (c *trial) letGo(x byte) {
	c.t.Helper()
	if len(c.mine) == 0 {
		return
	}
	at := int(x) % len(c.mine)
	h := c.mine[at]
	c.mine = slices.Delete(c.mine, at, at+1)
	if h != 0 {
		before := c.s.Occupied()
		drop(c.t, c.s, h, c.freed(before))
	}
}

// step has all do what three bytes say.
func (c *trial) step(what, x, y byte) {
	c.t.Helper()
	i := int(what/16) % len(c.all)
	switch what % 10 {
	case 0, 1, 2:
		c.add(i, c.name(x), c.handle(y))
	case 3, 4:
		c.move(i, c.name(x), c.handle(y))
	case 5, 6:
		c.drop(i, c.name(x))
	case 7:
		c.write(x, y)
	case 8:
		if len(c.mine) < 6 {
			c.write(x, y)
		}
	default:
		c.letGo(x)
	}
	c.compare()
}

// emptied has callers drop all that is theirs: the names' trees are kept; when all names are dropped, too, no slot is occupied.
func (c *trial) emptied() {
	c.t.Helper()
	c.kept()
	for len(c.mine) > 0 {
		c.letGo(0)
	}
	odd := c.odd
	c.odd = nil
	for _, h := range odd {
		before := c.s.Occupied()
		drop(c.t, c.s, h, c.freed(before))
	}
	c.compare()
	c.kept()
	var roots []int
	for i, v := range c.all {
		roots = append(roots, v.Roots()...)
		for _, name := range v.Names() {
			if len(roots) <= api.MaxRoots {
				c.audited()
			}
			c.drop(i, name)
			c.compare()
		}
	}
	if c.s.Occupied() != 0 {
		c.t.Fatalf("nothing is held, but %d slots are occupied", c.s.Occupied())
	}
}

// audited sees that, where callers hold nothing, the roots under names are all that a store's counts want.
func (c *trial) audited() {
	c.t.Helper()
	var roots []int
	for _, v := range c.all {
		roots = append(roots, v.Roots()...)
	}
	if l, e := audit.Check(c.s, roots); len(l) != 0 || e != api.OK {
		c.t.Fatalf("Check(%v) = %v, %d", roots, l, e)
	}
}

func TestScripts(t *testing.T) {
	for sets := 1; sets <= 3; sets++ {
		for seed := range 3 {
			c := newTrial(t, 4000, sets)
			numbers := chance(100*sets + seed)
			for i := range 700 {
				c.step(numbers.next(), numbers.next(), numbers.next())
				if i%100 == 0 {
					c.kept()
				}
			}
			c.emptied()
		}
	}
}

// The same calls in the same order answer the same, in another store.
func TestAnswersHangOnTheCallsAlone(t *testing.T) {
	var first string
	for range 5 {
		c := newTrial(t, 3000, 1)
		numbers := chance(9)
		for range 120 {
			c.step(numbers.next(), numbers.next(), numbers.next())
		}
		if first == "" {
			first = told(c.all[0])
		}
		if now := told(c.all[0]); now != first {
			t.Fatalf("another time:\n%snot\n%s", now, first)
		}
	}
}

func FuzzScript(f *testing.F) {
	f.Add(byte(0), []byte{7, 0, 3, 0, 0, 6, 3, 0, 6, 9, 0, 0, 5, 0, 0})
	f.Add(byte(1), []byte{0, 0, 0, 16, 1, 0, 7, 1, 1, 3, 0, 9, 20, 1, 9, 9, 0, 0})
	f.Fuzz(func(t *testing.T, sets byte, steps []byte) {
		c := newTrial(t, 4000, int(sets)%3+1)
		steps = steps[:min(len(steps), 240)] // longer scripts show no more, and take long
		for ; len(steps) >= 3; steps = steps[3:] {
			c.step(steps[0], steps[1], steps[2])
		}
		c.emptied()
	})
}
