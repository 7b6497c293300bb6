package drop_test

import (
	"bytes"
	"fmt"
	"maps"
	"slices"
	"strings"
	"testing"

	"rootcellar/api"
	"rootcellar/drop"
	"rootcellar/node"
	"rootcellar/put"
	"rootcellar/store"
	"rootcellar/tag"
)

// knot is a node in the words of chapters 7, 9 and 10.
type knot struct {
	kind        api.Kind
	key         api.Path
	value       string
	depth       int
	left, right int
	callers     int
	digest      api.Hash
	size        int
}

// model is a store in these words, with the free slots in the order in which they became free.
type model struct {
	room  int
	knots map[int]knot
	freed []int
	never int // the least slot that was never occupied
	made  int // how many nodes were made so far
}

func newModel(room int) *model { return &model{room: room, knots: map[int]knot{}, never: 1} }

// digits tells a key's bits, one behind the other.
func digits(k api.Path) string {
	var b strings.Builder
	for _, x := range k {
		fmt.Fprintf(&b, "%08b", x)
	}
	return b.String()
}

// common tells at which bit two unlike keys part.
func common(a, b api.Path) int {
	one, two := digits(a), digits(b)
	d := 0
	for one[d] == two[d] {
		d++
	}
	return d
}

func (m *model) take(k knot) int {
	h := m.never
	if last := len(m.freed) - 1; last >= 0 {
		h = m.freed[last]
		m.freed = m.freed[:last]
	} else {
		m.never++
	}
	if h > m.room {
		panic("no slot is free")
	}
	k.callers = 1
	m.knots[h] = k
	m.made++
	return h
}

// call has callers hold a node so often more; of nothing there is nothing to hold.
func (m *model) call(h, more int) {
	if h == 0 {
		return
	}
	k := m.knots[h]
	k.callers += more
	m.knots[h] = k
}

func (m *model) leaf(key api.Path, value []byte) int {
	return m.take(knot{kind: api.Leaf, key: key, value: string(value), depth: -1, digest: tag.Leaf(key, tag.Value(value)), size: 1})
}

// digest tells that of a handle.
func (m *model) digest(h int) api.Hash {
	if h == 0 {
		return tag.Empty()
	}
	return m.knots[h].digest
}

// inner makes an inner node on a key's way: of the node on its side, and of the other one.
func (m *model) inner(d int, key api.Path, mine, other int) int {
	k := knot{kind: api.Inner, depth: d, left: mine, right: other}
	if digits(key)[d] == '1' {
		k.left, k.right = other, mine
	}
	for i := range d {
		k.key[i/8] |= key[i/8] & (1 << (7 - i%8))
	}
	k.digest = tag.Inner(m.digest(k.left), m.digest(k.right))
	k.size = m.knots[mine].size + m.knots[other].size
	m.call(mine, -1)
	m.call(other, -1)
	return m.take(k)
}

// counts tells how often each node is held, all sides gone through.
func (m *model) counts() map[int]int {
	n := map[int]int{}
	for h, k := range m.knots {
		n[h] += k.callers
		n[k.left]++
		n[k.right]++
	}
	delete(n, 0)
	return n
}

func (m *model) drop(h int) {
	counts := m.counts()
	m.call(h, -1)
	m.letGo(counts, h)
}

// letGo counts a node once less; if nothing holds it any more it is free, then its left side is counted less, then its right one.
func (m *model) letGo(counts map[int]int, h int) {
	counts[h]--
	if h == 0 || counts[h] > 0 {
		return
	}
	k := m.knots[h]
	delete(m.knots, h)
	m.freed = append(m.freed, h)
	m.letGo(counts, k.left)
	m.letGo(counts, k.right)
}

// sides tells that side of an inner node on which a key is, and the other one.
func (k knot) sides(key api.Path) (mine, other int) {
	if digits(key)[k.depth] == '1' {
		return k.right, k.left
	}
	return k.left, k.right
}

// written makes what stands at a handle anew, at its depth, with the key and the value among it.
func (m *model) written(h, d int, key api.Path, value []byte) int {
	k := m.knots[h]
	switch {
	case h == 0, k.kind == api.Leaf && k.key == key:
		return m.leaf(key, value)
	case k.kind == api.Leaf:
		top := m.leaf(key, value)
		m.call(h, 1)
		parting := common(key, k.key)
		top = m.inner(parting, key, top, h)
		for up := parting - 1; up >= d; up-- {
			top = m.inner(up, key, top, 0)
		}
		return top
	}
	mine, other := k.sides(key)
	mine = m.written(mine, d+1, key, value)
	m.call(other, 1)
	return m.inner(d, key, mine, other)
}

// without tells what takes the place of what stands at a handle when the key, that is below it, is gone: nothing, or a node that callers hold once more then.
func (m *model) without(h int, key api.Path) int {
	k := m.knots[h]
	if k.kind == api.Leaf {
		return 0
	}
	mine, other := k.sides(key)
	mine = m.without(mine, key)
	switch {
	case other == 0 && m.knots[mine].kind != api.Inner: // this node is gone; what came up goes on up
		return mine
	case mine == 0 && m.knots[other].kind == api.Leaf: // the leaf takes the node's place
		m.call(other, 1)
		return other
	}
	m.call(other, 1)
	return m.inner(k.depth, key, mine, other)
}

// below tells the entries below a handle.
func (m *model) below(h int) []api.Pair {
	k := m.knots[h]
	switch {
	case h == 0:
		return nil
	case k.kind == api.Leaf:
		return []api.Pair{{Key: k.key, Value: []byte(k.value)}}
	}
	return append(m.below(k.left), m.below(k.right)...)
}

// refusal tells the errors of a root that is not at hand, and of no room.
func (m *model) refusal(root int) api.Errno {
	k, there := m.knots[root]
	switch {
	case root != 0 && !there:
		return api.ErrMissing
	case k.kind == api.Inner && k.depth != 0:
		return api.ErrArg
	case root != 0 && k.callers == 0:
		return api.ErrMissing
	case len(m.knots)+258 > m.room:
		return api.ErrStoreFull
	}
	return api.OK
}

func (m *model) put(root int, key api.Path, value []byte) (int, api.Errno) {
	if e := m.refusal(root); e != api.OK {
		return 0, e
	}
	if old, there := valueOf(m.below(root), key); there && bytes.Equal(old, value) {
		return root, api.OK
	}
	next := m.written(root, 0, key, value)
	if root != 0 {
		m.drop(root)
	}
	return next, api.OK
}

func (m *model) remove(root int, key api.Path) (int, bool, api.Errno) {
	if e := m.refusal(root); e != api.OK {
		return 0, false, e
	}
	if _, there := valueOf(m.below(root), key); !there {
		return root, false, api.OK
	}
	next := m.without(root, key)
	m.drop(root)
	return next, true, api.OK
}

// cost tells Cost's answer by what is made in another model, of a greater room.
func (m *model) cost(root int, key api.Path) (int, api.Errno) {
	c := &model{room: m.room + 258, knots: maps.Clone(m.knots), freed: slices.Clone(m.freed), never: m.never}
	_, _, e := c.remove(root, key)
	return c.made, e
}

// rows tells all nodes as rows of a store's are told.
func (m *model) rows() []row {
	counts := m.counts()
	var l []row
	for _, h := range slices.Sorted(maps.Keys(m.knots)) {
		k := m.knots[h]
		l = append(l, row{
			handle: h, depth: k.depth, left: k.left, right: k.right, size: k.size, count: counts[h], held: k.callers,
			kind: k.kind, key: k.key, value: k.value, digest: k.digest,
		})
	}
	return l
}

// valueOf tells what entries have for a key.
func valueOf(l []api.Pair, key api.Path) ([]byte, bool) {
	i := slices.IndexFunc(l, func(p api.Pair) bool { return p.Key == key })
	if i < 0 {
		return nil, false
	}
	return l[i].Value, true
}

// twin has a store and its model do the same.
type twin struct {
	t testing.TB
	s *store.Store
	m *model
}

func newTwin(t testing.TB, room int) *twin {
	t.Helper()
	return &twin{t, fresh(t, room), newModel(room)}
}

func (c *twin) put(root int, key api.Path, value []byte) int {
	c.t.Helper()
	wantNext, want := c.m.put(root, key, value)
	next, e := put.Put(c.s, root, key, value)
	if next != wantNext || e != want {
		c.t.Fatalf("Put(%d, %x, %d bytes) = %d, %d, not %d, %d", root, key, len(value), next, e, wantNext, want)
	}
	return next
}

// all has both put entries one behind the other.
func (c *twin) all(root int, l []api.Pair) int {
	c.t.Helper()
	for _, p := range l {
		root = c.put(root, p.Key, p.Value)
	}
	return root
}

// remove has both delete a key, holds Cost against the model, and the digest against the other entries.
func (c *twin) remove(root int, key api.Path) int {
	c.t.Helper()
	wantCost, want := c.m.cost(root, key)
	if n, e := drop.Cost(c.s, root, key); n != wantCost || e != want || n > 256 {
		c.t.Fatalf("Cost(%d, %x) = %d, %d, not %d, %d", root, key, n, e, wantCost, want)
	}
	others, occupied := besides(c.m.below(root), key), c.s.Occupied()
	wantNext, wantThere, want := c.m.remove(root, key)
	next, there, e := drop.Drop(c.s, root, key)
	if next != wantNext || there != wantThere || e != want {
		c.t.Fatalf("Drop(%d, %x) = %d, %t, %d, not %d, %t, %d", root, key, next, there, e, wantNext, wantThere, want)
	}
	if c.s.Occupied() > occupied+wantCost {
		c.t.Fatalf("Drop(%d, %x): %d slots more are occupied, %d nodes are made", root, key, c.s.Occupied()-occupied, wantCost)
	}
	if e == api.OK {
		if digest, e := node.Root(others); e != api.OK || c.s.Digest(next) != digest {
			c.t.Fatalf("Drop(%d, %x) leads to %x, not to %x", root, key, c.s.Digest(next), digest)
		}
	}
	return next
}

func (c *twin) leaf(key api.Path, value []byte) {
	c.t.Helper()
	if h, want := leaf(c.t, c.s, key, value), c.m.leaf(key, value); h != want {
		c.t.Fatalf("Leaf: %d, not %d", h, want)
	}
}

func (c *twin) hold(h int) {
	c.t.Helper()
	hold(c.t, c.s, h)
	c.m.call(h, 1)
}

func (c *twin) letGo(h int) {
	c.t.Helper()
	letGo(c.t, c.s, h)
	c.m.drop(h)
}

// compare holds all that the store tells against the model.
func (c *twin) compare() {
	c.t.Helper()
	same(c.t, "the model", c.s, c.m.rows())
	if c.s.Occupied() != len(c.m.knots) || c.s.Room() != c.m.room {
		c.t.Fatalf("Occupied %d, Room %d, not %d, %d", c.s.Occupied(), c.s.Room(), len(c.m.knots), c.m.room)
	}
}

// filled takes all slots that are free: in which order shows in which they became free.
func (c *twin) filled() {
	c.t.Helper()
	for c.s.Occupied() < c.m.room {
		c.leaf(keyN, nil)
	}
	c.compare()
}

// heldOnes tells the handles that callers hold, and 0.
func (c *twin) heldOnes() []int {
	l := []int{0}
	for _, h := range slices.Sorted(maps.Keys(c.m.knots)) {
		if c.m.knots[h].callers > 0 {
			l = append(l, h)
		}
	}
	return l
}

// emptied drops all that callers hold: then no slot is occupied.
func (c *twin) emptied() {
	c.t.Helper()
	for _, h := range c.heldOnes()[1:] {
		for c.s.Held(h) > 0 {
			letGo(c.t, c.s, h)
		}
	}
	if c.s.Occupied() != 0 || len(c.s.Handles()) != 0 {
		c.t.Errorf("callers hold nothing, but %d slots are occupied", c.s.Occupied())
	}
}

// pool are keys that part at the first bits, in the midst, and at the last ones.
func pool() []api.Path {
	var l []api.Path
	for i := range 8 {
		l = append(l, api.Path{0: byte(i << 5)})
	}
	for i := 1; i < 4; i++ {
		l = append(l, api.Path{31: byte(i)}, api.Path{0: 160, 31: byte(i)}, api.Path{15: byte(i)})
	}
	return append(l, keyN, flip(keyN, 255), flip(keyN, 100))
}

// oneOf tells a key of a tree, or one of the pool where it has none.
func (c *twin) oneOf(root int, x byte) api.Path {
	if l := c.m.below(root); len(l) > 0 {
		return l[int(x)%len(l)].Key
	}
	return pool()[int(x)%len(pool())]
}

// step has both do what four bytes say.
func (c *twin) step(what, x, y, z byte) {
	c.t.Helper()
	roots := c.heldOnes()
	root := roots[int(x)%len(roots)]
	if other := roots[int(z)%len(roots)]; what >= 64 && c.m.knots[other].size > c.m.knots[root].size {
		root = other // the greater one mostly, so that trees grow
	}
	key := pool()[int(y)%len(pool())]
	if len(c.m.knots)+258 > c.m.room && what%4 > 0 {
		what = 4 // what has no room is asked for often enough
	}
	switch what % 16 {
	case 0:
		c.remove(int(x)<<8>>(what>>4)+int(z)-2, key) // a handle that mostly is none, or none that a caller holds
	case 1:
		c.remove(root, key) // a key that mostly is not there
	case 2:
		if h := int(x) + 1; c.s.Has(h) && what >= 128 {
			c.hold(h)
		}
	case 3:
		if root != 0 {
			c.hold(root)
		}
	case 4:
		if root = roots[int(x)%len(roots)]; root != 0 {
			c.letGo(root)
		}
	case 5:
		if c.s.Occupied() < c.m.room {
			c.leaf(key, noise(int(z)%9))
		}
	case 6, 7, 8, 9, 10:
		c.remove(root, c.oneOf(root, y))
	default:
		c.put(root, key, noise(int(z)%3))
	}
	c.compare()
}

// chance tells numbers that no pattern is seen in.
type chance uint32

func (c *chance) next() byte {
	*c = *c*1664525 + 1013904223
	return byte(*c >> 24)
}

func TestScripts(t *testing.T) {
	steps := 300
	if testing.Short() {
		steps = 60
	}
	for _, room := range []int{257, 258, 259, 262, 300, 515, 516, 600, 1300, 3000} {
		for seed := range 2 {
			c := newTwin(t, room)
			numbers := chance(100*room + seed)
			for range steps {
				c.step(numbers.next(), numbers.next(), numbers.next(), numbers.next())
			}
			c.filled()
			c.emptied()
		}
	}
}

func FuzzScript(f *testing.F) {
	f.Add(byte(80), []byte{11, 0, 0, 0, 11, 1, 4, 0, 11, 1, 2, 3, 3, 1, 0, 0, 6, 1, 4, 3})
	f.Add(byte(90), []byte{11, 0, 0, 0, 11, 1, 8, 0, 11, 1, 9, 3, 4, 1, 0, 0, 7, 0, 8, 1})
	f.Add(byte(250), noise(120))
	f.Fuzz(func(t *testing.T, room byte, steps []byte) {
		c := newTwin(t, 256+4*int(room))
		steps = steps[:min(len(steps), 160)] // longer scripts show no more, and take long
		for ; len(steps) >= 4; steps = steps[4:] {
			c.step(steps[0], steps[1], steps[2], steps[3])
		}
		c.filled()
		c.emptied()
	})
}
