package store_test

import (
	"bytes"
	"fmt"
	"slices"
	"strings"
	"testing"

	"rootcellar/api"
	"rootcellar/node"
	"rootcellar/store"
	"rootcellar/tag"
)

// knot is a node in the chapter's words, and what is told of it for as long as it is there.
type knot struct {
	kind        api.Kind
	key         api.Path
	value       []byte
	depth       int
	left, right int
	callers     int

	digest api.Hash
	node   api.Node
	size   int
}

// model is a store in the chapter's words. It has the free slots in the order in which they became free.
type model struct {
	room  int
	knots map[int]*knot
	freed []int
}

func newModel(room int) *model { return &model{room: room, knots: map[int]*knot{}} }

// digits tells a key's bits, one behind the other.
func digits(k api.Path) string {
	var b strings.Builder
	for _, x := range k {
		fmt.Fprintf(&b, "%08b", x)
	}
	return b.String()
}

// handles tells those of nodes, rising.
func (m *model) handles() []int {
	var l []int
	for h := range m.knots {
		l = append(l, h)
	}
	slices.Sort(l)
	return l
}

// next tells which slot is taken; 0, if none is free.
func (m *model) next() int {
	if len(m.freed) > 0 {
		return m.freed[len(m.freed)-1]
	}
	for h := 1; h <= m.room; h++ {
		if m.knots[h] == nil {
			return h
		}
	}
	return 0
}

func (m *model) take(k *knot) (int, api.Errno) {
	h := m.next()
	if h == 0 {
		return 0, api.ErrStoreFull
	}
	m.freed = slices.DeleteFunc(m.freed, func(f int) bool { return f == h })
	m.knots[h] = k
	return h, api.OK
}

// below tells the entries of the leaves below a handle.
func (m *model) below(h int) []api.Pair {
	k := m.knots[h]
	switch {
	case k == nil:
		return nil
	case k.kind == api.Leaf:
		return []api.Pair{{Key: k.key, Value: k.value}}
	}
	return append(m.below(k.left), m.below(k.right)...)
}

// fit tells whether sides fit a depth.
func (m *model) fit(d, left, right int) bool {
	if left == 0 && right == 0 {
		return false
	}
	if left == 0 && m.knots[right].kind == api.Leaf || right == 0 && m.knots[left].kind == api.Leaf {
		return false
	}
	for _, h := range []int{left, right} {
		if k := m.knots[h]; k != nil && k.kind == api.Inner && k.depth != d+1 {
			return false
		}
	}
	var first []string
	for digit, h := range map[byte]int{'0': left, '1': right} {
		for _, p := range m.below(h) {
			if digits(p.Key)[d] != digit {
				return false
			}
			first = append(first, digits(p.Key)[:d])
		}
	}
	slices.Sort(first)
	return len(slices.Compact(first)) == 1
}

// held tells whether a handle is a node's that a caller holds.
func (m *model) held(h int) bool { return m.knots[h] != nil && m.knots[h].callers > 0 }

// count tells how often a node is held, all sides of nodes gone through.
func (m *model) count(h int) int {
	if m.knots[h] == nil {
		return 0
	}
	n := m.knots[h].callers
	for _, k := range m.knots {
		for _, side := range []int{k.left, k.right} {
			if side == h {
				n++
			}
		}
	}
	return n
}

func (m *model) digest(h int) api.Hash {
	switch {
	case h == 0:
		return tag.Empty()
	case m.knots[h] == nil:
		return api.Hash{}
	}
	return m.knots[h].digest
}

func (m *model) leaf(key api.Path, value []byte) (int, api.Errno) {
	if len(value) > 1024 {
		return 0, api.ErrLong
	}
	v := tag.Value(value)
	return m.take(&knot{
		kind: api.Leaf, key: key, value: bytes.Clone(value), depth: -1, callers: 1,
		digest: tag.Leaf(key, v), node: api.Node{Kind: api.Leaf, Key: key, Value: v}, size: 1,
	})
}

// refusal tells Inner's error, or OK.
func (m *model) refusal(d, left, right int) api.Errno {
	switch {
	case d < 0 || d > 255:
		return api.ErrArg
	case left != 0 && !m.held(left) || right != 0 && !m.held(right):
		return api.ErrMissing
	case !m.fit(d, left, right):
		return api.ErrArg
	case m.next() == 0:
		return api.ErrStoreFull
	}
	return api.OK
}

func (m *model) inner(d, left, right int) (int, api.Errno) {
	if e := m.refusal(d, left, right); e != api.OK {
		return 0, e
	}
	entries := append(m.below(left), m.below(right)...)
	digest, e := node.RootAt(entries, d)
	if e != api.OK {
		panic(fmt.Sprint("RootAt = ", e))
	}
	k := &knot{
		kind: api.Inner, depth: d, left: left, right: right, callers: 1,
		digest: digest, node: api.Node{Kind: api.Inner, Left: m.digest(left), Right: m.digest(right)}, size: len(entries),
	}
	for i, digit := range digits(entries[0].Key)[:d] {
		k.key[i/8] |= byte(digit-'0') << (7 - i%8)
	}
	for _, side := range []int{left, right} {
		if side != 0 {
			m.knots[side].callers--
		}
	}
	return m.take(k)
}

func (m *model) hold(h int) api.Errno {
	if m.knots[h] == nil {
		return api.ErrMissing
	}
	m.knots[h].callers++
	return api.OK
}

func (m *model) drop(h int) (int, api.Errno) {
	if !m.held(h) {
		return 0, api.ErrMissing
	}
	m.knots[h].callers--
	return m.letGo(h), api.OK
}

// letGo makes a node free whose count is 0, then what its left side's loss lets go, then the right one's.
func (m *model) letGo(h int) int {
	if h == 0 || m.count(h) > 0 {
		return 0
	}
	k := m.knots[h]
	delete(m.knots, h)
	m.freed = append(m.freed, h)
	// Both sides are lost already, but no node is below both.
	return 1 + m.letGo(k.left) + m.letGo(k.right)
}

// root tells store.Root's answer.
func (m *model) root(h int) api.Errno {
	k := m.knots[h]
	switch {
	case h == 0:
		return api.OK
	case k == nil:
		return api.ErrMissing
	case k.kind == api.Inner && k.depth != 0:
		return api.ErrArg
	}
	return api.OK
}

// twin has a store and its model do the same.
type twin struct {
	t testing.TB
	s *store.Store
	m *model
}

func newTwin(t testing.TB, room int) *twin {
	t.Helper()
	return &twin{t, fresh(t, room), newModel(room)}
}

func (c *twin) leaf(key api.Path, value []byte) int {
	c.t.Helper()
	h, e := c.s.Leaf(key, value)
	if wantH, want := c.m.leaf(key, value); h != wantH || e != want {
		c.t.Fatalf("Leaf(%x, %d bytes) = %d, %d, not %d, %d", key, len(value), h, e, wantH, want)
	}
	return h
}

func (c *twin) inner(d, left, right int) int {
	c.t.Helper()
	h, e := c.s.Inner(d, left, right)
	if wantH, want := c.m.inner(d, left, right); h != wantH || e != want {
		c.t.Fatalf("Inner(%d, %d, %d) = %d, %d, not %d, %d", d, left, right, h, e, wantH, want)
	}
	return h
}

func (c *twin) hold(h int) {
	c.t.Helper()
	if e, want := c.s.Hold(h), c.m.hold(h); e != want {
		c.t.Fatalf("Hold(%d) = %d, not %d", h, e, want)
	}
}

func (c *twin) drop(h int) {
	c.t.Helper()
	n, e := c.s.Drop(h)
	if wantN, want := c.m.drop(h); n != wantN || e != want {
		c.t.Fatalf("Drop(%d) = %d, %d, not %d, %d", h, n, e, wantN, want)
	}
}

// compare holds all that the store tells against the model.
func (c *twin) compare() {
	c.t.Helper()
	handles := c.m.handles()
	if got := c.s.Handles(); !slices.Equal(got, handles) || c.s.Occupied() != len(handles) || c.s.Room() != c.m.room {
		c.t.Fatalf("Handles %v, Occupied %d, Room %d, not %v, %d", got, c.s.Occupied(), c.s.Room(), handles, c.m.room)
	}
	for h := -2; h <= c.m.room+2; h++ {
		c.compareAt(h)
	}
}

func (c *twin) compareAt(h int) {
	c.t.Helper()
	s, k := c.s, c.m.knots[h]
	if s.Has(h) != (k != nil) {
		c.t.Fatalf("Has(%d) = %t", h, s.Has(h))
	}
	if k == nil {
		k = &knot{depth: -1}
	}
	if s.Kind(h) != k.kind || s.Depth(h) != k.depth || s.Key(h) != k.key || !bytes.Equal(s.Value(h), k.value) {
		c.t.Fatalf("handle %d: Kind %d, Depth %d, Key %x, Value %x, not %d, %d, %x, %x", h, s.Kind(h), s.Depth(h), s.Key(h), s.Value(h), k.kind, k.depth, k.key, k.value)
	}
	if left, right := s.Sides(h); left != k.left || right != k.right {
		c.t.Fatalf("Sides(%d) = %d, %d, not %d, %d", h, left, right, k.left, k.right)
	}
	if s.Digest(h) != c.m.digest(h) || s.Node(h) != k.node {
		c.t.Fatalf("handle %d: Digest %x, Node %x, not %x, %x", h, s.Digest(h), s.Node(h), c.m.digest(h), k.node)
	}
	if s.Size(h) != k.size || s.Count(h) != c.m.count(h) || s.Held(h) != k.callers {
		c.t.Fatalf("handle %d: Size %d, Count %d, Held %d, not %d, %d, %d", h, s.Size(h), s.Count(h), s.Held(h), k.size, c.m.count(h), k.callers)
	}
	if s.Root(h) != c.m.root(h) {
		c.t.Fatalf("Root(%d) = %d, not %d", h, s.Root(h), c.m.root(h))
	}
}

// pool are keys that part at the first bits, and at the last ones.
func pool() []api.Path {
	var l []api.Path
	for i := range 8 {
		l = append(l, api.Path{0: byte(i << 5)})
	}
	for i := 1; i < 4; i++ {
		l = append(l, api.Path{31: byte(i)})
	}
	return append(l, api.Path{0: 128, 31: 1})
}

// fitting tells all that Inner may be asked for with success at the depths that the pool's keys part at.
func (m *model) fitting() [][3]int {
	var l [][3]int
	for _, d := range []int{0, 1, 2, 3, 253, 254, 255} {
		for left := range m.room + 1 {
			for right := range m.room + 1 {
				if m.refusal(d, left, right) == api.OK {
					l = append(l, [3]int{d, left, right})
				}
			}
		}
	}
	return l
}

// step has both do what four bytes say.
func (c *twin) step(what, x, y, z byte) {
	c.t.Helper()
	handle := func(b byte) int { return int(b)%(c.m.room+3) - 1 }
	switch what % 10 {
	case 0, 1, 2:
		keys := pool()
		lengths := []int{0, 1, 2, 3, 1024, 1025}
		value := noise(lengths[int(y)%len(lengths)])
		for i := range value {
			value[i] += z
		}
		c.leaf(keys[int(x)%len(keys)], value)
		scribble(value)
	case 3:
		depths := []int{-1, 0, 1, 2, 3, 4, 253, 254, 255, 256}
		c.inner(depths[int(x)%len(depths)], handle(y), handle(z))
	case 4, 5, 6:
		if l := c.m.fitting(); len(l) > 0 {
			pick := l[(int(x)<<8+int(y))%len(l)]
			c.inner(pick[0], pick[1], pick[2])
		}
	case 7:
		c.hold(handle(x))
	default:
		c.drop(handle(x))
	}
	c.compare()
}

// chance tells numbers that no pattern is seen in.
type chance uint32

func (c *chance) next() byte {
	*c = *c*1664525 + 1013904223
	return byte(*c >> 24)
}

func TestScripts(t *testing.T) {
	for _, room := range []int{1, 2, 3, 4, 5, 8, 12, 20} {
		for seed := range 3 {
			c := newTwin(t, room)
			numbers := chance(100*room + seed)
			for range 1200 {
				c.step(numbers.next(), numbers.next(), numbers.next(), numbers.next())
			}
			c.emptied()
		}
	}
}

// emptied drops all that callers hold: then no slot is occupied.
func (c *twin) emptied() {
	c.t.Helper()
	for h := 1; h <= c.m.room; h++ {
		for c.m.held(h) {
			c.drop(h)
			c.compare()
		}
	}
	if c.s.Occupied() != 0 || len(c.s.Handles()) != 0 {
		c.t.Errorf("callers hold nothing, but %d slots are occupied", c.s.Occupied())
	}
}

// Every Inner that is refused, asked of stores as scripts leave them: at each depth of the edges, of each two handles.
func TestEveryRefusal(t *testing.T) {
	for _, room := range []int{3, 6, 10} {
		c := newTwin(t, room)
		numbers := chance(room)
		for range 40 {
			for range 12 {
				c.step(numbers.next(), numbers.next(), numbers.next(), numbers.next())
			}
			for _, d := range []int{-1, 0, 1, 2, 3, 4, 253, 254, 255, 256, 257} {
				for left := -1; left <= room+1; left++ {
					for right := -1; right <= room+1; right++ {
						if c.m.refusal(d, left, right) != api.OK {
							c.inner(d, left, right)
						}
					}
				}
			}
			c.compare()
		}
	}
}

func FuzzScript(f *testing.F) {
	f.Add(byte(3), []byte{0, 0, 0, 0, 0, 4, 0, 0, 3, 1, 2, 3, 7, 2, 0, 0, 8, 4, 0, 0})
	f.Add(byte(7), []byte{0, 0, 1, 0, 0, 8, 1, 0, 3, 8, 2, 3, 3, 7, 4, 1, 8, 5, 0, 0, 0, 3, 3, 3})
	f.Add(byte(11), noise(200))
	f.Fuzz(func(t *testing.T, room byte, steps []byte) {
		c := newTwin(t, int(room)%16+1)
		steps = steps[:min(len(steps), 400)] // longer scripts show no more, and take long
		for ; len(steps) >= 4; steps = steps[4:] {
			c.step(steps[0], steps[1], steps[2], steps[3])
		}
		c.emptied()
	})
}
