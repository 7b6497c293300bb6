package dict_test

import (
	"bytes"
	"maps"
	"slices"
	"strings"
	"testing"

	"rootcellar/api"
	"rootcellar/dict"
	"rootcellar/node"
)

// chance tells numbers that no pattern is seen in.
type chance uint32

func (c *chance) next() byte {
	*c = *c*1664525 + 1013904223
	return byte(*c >> 24)
}

// knot is a node of a tree in the document's words: a leaf has an entry, an inner node the entries below it.
type knot struct {
	below       []api.Pair
	left, right *knot
}

// bit tells a key's bit.
func bit(k api.Path, d int) byte { return k[d/8] >> (7 - d%8) & 1 }

// regrown makes the tree of entries at a depth, with the nodes that it shares with an old one of that depth.
func regrown(old *knot, oldLeaves map[api.Path]*knot, l []api.Pair, d int) *knot {
	if len(l) == 0 {
		return nil
	}
	if len(l) == 1 {
		if leaf := oldLeaves[l[0].Key]; leaf != nil && bytes.Equal(leaf.below[0].Value, l[0].Value) {
			return leaf
		}
		return &knot{below: l}
	}
	if old != nil && len(old.below) == 1 { // a leaf has nothing below it that could be shared at a depth
		old = nil
	}
	if old == nil {
		old = &knot{}
	}
	if slices.EqualFunc(old.below, l, likePairs) {
		return old
	}
	at := slices.IndexFunc(l, func(p api.Pair) bool { return bit(p.Key, d) == 1 })
	if at < 0 {
		at = len(l)
	}
	return &knot{l, regrown(old.left, oldLeaves, l[:at], d+1), regrown(old.right, oldLeaves, l[at:], d+1)}
}

// gather puts all nodes of a tree into a set.
func gather(k *knot, into map[*knot]int) {
	if k == nil || into[k] > 0 {
		return
	}
	into[k]++
	gather(k.left, into)
	gather(k.right, into)
}

// state is a map as it stands at one time: its entries, its root by definition, its tree.
type state struct {
	entries map[api.Path]string
	root    api.Hash
	top     *knot
}

// model is a dictionary in the chapter's words.
type model struct {
	room    int
	current *state
	named   map[string]*state
}

func newModel(room int) *model {
	m := &model{room: room, named: map[string]*state{}}
	m.current = stateOf(nil, map[api.Path]string{})
	return m
}

// stateOf tells the state of entries that came of another one.
func stateOf(old *knot, entries map[api.Path]string) *state {
	l := pairs(entries)
	root, e := node.Root(l)
	if e != api.OK {
		panic(e)
	}
	leaves := map[api.Path]*knot{}
	nodes := map[*knot]int{}
	gather(old, nodes)
	for k := range nodes {
		if len(k.below) == 1 {
			leaves[k.below[0].Key] = k
		}
	}
	return &state{entries, root, regrown(old, leaves, l, 0)}
}

// occupied tells how many nodes there are in all trees, each once where it is shared.
func (m *model) occupied() int {
	nodes := map[*knot]int{}
	gather(m.current.top, nodes)
	for _, s := range m.named {
		gather(s.top, nodes)
	}
	return len(nodes)
}

// refusal tells the error of writes.
func (m *model) refusal(l []api.Raw) api.Errno {
	unlike := map[string]int{}
	long := len(l) > 64
	for _, w := range l {
		if len(w.Key) != 32 {
			return api.ErrKey
		}
		unlike[string(w.Key)]++
		long = long || !w.Gone && len(w.Value) > 1024
	}
	switch {
	case long:
		return api.ErrLong
	case m.occupied()+258*len(unlike) > m.room:
		return api.ErrStoreFull
	}
	return api.OK
}

// write does what writes say, one behind the other.
func (m *model) write(l []api.Raw) api.Errno {
	if e := m.refusal(l); e != api.OK {
		return e
	}
	next := maps.Clone(m.current.entries)
	for _, w := range l {
		if w.Gone {
			delete(next, api.Path(w.Key))
		} else {
			next[api.Path(w.Key)] = string(w.Value)
		}
	}
	m.current = stateOf(m.current.top, next)
	return api.OK
}

func (m *model) snapshot(name string) api.Errno {
	switch {
	case !slices.Contains(trialNames, name):
		return api.ErrName
	case len(m.named) == 16:
		return api.ErrVersions
	case m.named[name] != nil:
		return api.ErrThere
	}
	m.named[name] = m.current
	return api.OK
}

func (m *model) rollback(name string) api.Errno {
	if m.named[name] == nil {
		return api.ErrMissing
	}
	m.current = m.named[name]
	return api.OK
}

func (m *model) prune(name string) api.Errno {
	if m.named[name] == nil {
		return api.ErrMissing
	}
	delete(m.named, name)
	return api.OK
}

// trialNames are more names than there may be at a time, and otherTexts are none.
var trialNames = []string{"a", "a-", "a-a", "a0", "aa", "b", "b-b-b", "c9", "d", "e", "f", "g", "h", "one", "two", "three", "x", "y", "z", "abcdefghijklmnopqrst"}

var otherTexts = []string{"", "2", "-", "A", "a_", "abcdefghijklmnopqrstu", "\xff"}

// trial has a dictionary and its model do the same.
type trial struct {
	t testing.TB
	d *dict.Dict
	m *model
}

func newTrial(t testing.TB, room int) *trial {
	t.Helper()
	return &trial{t, fresh(t, room), newModel(room)}
}

// pool are the keys of scripts: some part at the first bits, some amid, some at the last ones.
func pool() []api.Path {
	l := []api.Path{keyZ, keyO, keyX, keyY, lastKey, flip(lastKey, 255), flip(keyY, 128), flip(keyX, 200)}
	for i := range 6 {
		l = append(l, scattered(i), near(i+2), ladder(3*i+1))
	}
	return l
}

// key, value and name tell one by a byte, now and then one that may not be.
func key(b byte) []byte {
	if b%32 == 31 {
		return some([]int{0, 31, 33}[int(b/32)%3])
	}
	l := pool()
	return l[int(b)%len(l)][:]
}

func value(b byte) []byte {
	switch b % 16 {
	case 13:
		return some(1024)
	case 14:
		return nil
	case 15:
		return some(1025)
	}
	return bytes.Repeat([]byte{b % 4}, int(b%3))
}

func name(b byte) string {
	if b%16 == 15 {
		return otherTexts[int(b/16)%len(otherTexts)]
	}
	return trialNames[int(b)%len(trialNames)]
}

// batch tells writes by two bytes, now and then too many of them.
func batch(x, y byte) []api.Raw {
	numbers := chance(int(x)<<8 + int(y))
	n := int(numbers.next()) % 7
	if y%64 == 63 {
		n = 60 + int(x)%8
	}
	var l []api.Raw
	for range n {
		k := key(numbers.next())
		if len(k) != 32 && numbers.next()%4 > 0 {
			k = keyX[:]
		}
		w := api.Raw{Key: k, Gone: numbers.next()%3 == 0, Value: value(numbers.next())}
		if !w.Gone && len(w.Value) > 1024 && numbers.next()%4 > 0 {
			w.Value = nil
		}
		l = append(l, w)
	}
	return l
}

// call is one call of both: what the model answers, then what the dictionary does.
type call struct {
	want    api.Errno
	keys    int // how many are written
	answers func() api.Errno
}

// call tells the call that three bytes say; the model has done it.
func (c *trial) call(what, x, y byte) call {
	switch what % 12 {
	case 0, 1, 2, 3:
		w := api.Raw{Key: key(x), Value: value(y)}
		return call{c.m.write([]api.Raw{w}), 1, func() api.Errno { return c.d.Put(w.Key, w.Value) }}
	case 4, 5:
		_, was := c.m.current.entries[path(key(x))]
		want := c.m.write([]api.Raw{{Key: key(x), Gone: true}})
		return call{want, 1, func() api.Errno {
			there, e := c.d.Delete(key(x))
			if there != (was && want == api.OK) {
				c.t.Fatalf("Delete(%x) = %t, %d", key(x), there, e)
			}
			return e
		}}
	case 6, 7:
		l := batch(x, y)
		return call{c.m.write(l), len(l), func() api.Errno { return c.d.Batch(l) }}
	case 8, 9:
		return call{c.m.snapshot(name(x)), 0, func() api.Errno { return c.d.Snapshot(name(x)) }}
	case 10:
		return call{c.m.rollback(name(x)), 0, func() api.Errno { return c.d.Rollback(name(x)) }}
	}
	return call{c.m.prune(name(x)), 0, func() api.Errno { return c.d.Prune(name(x)) }}
}

// step has both do what three bytes say.
func (c *trial) step(what, x, y byte) {
	c.t.Helper()
	nodes := c.d.Occupied()
	next := c.call(what, x, y)
	answers := func() {
		c.t.Helper()
		if e := next.answers(); e != next.want {
			c.t.Fatalf("step %d %d %d = %d, not %d", what, x, y, e, next.want)
		}
	}
	if next.want != api.OK {
		unchanged(c.t, "refused", c.d, answers)
		return
	}
	answers()
	if more := c.d.Occupied() - nodes; more > 258*next.keys {
		c.t.Fatalf("step %d %d %d made %d slots more occupied", what, x, y, more)
	}
	c.compare(x, y)
}

// path tells bytes as a key; others than of 32 as one that no map of these scripts has.
func path(b []byte) api.Path {
	if len(b) != 32 {
		return api.Path{5: 5}
	}
	return api.Path(b)
}

// compare holds all that the dictionary tells against the model.
func (c *trial) compare(x, y byte) {
	c.t.Helper()
	d, m := c.d, c.m
	if names := slices.Sorted(maps.Keys(m.named)); !slices.Equal(d.Names(), names) {
		c.t.Fatalf("Names %q, not %q", d.Names(), names)
	}
	if d.Occupied() != m.occupied() || d.Room() != m.room {
		c.t.Fatalf("Occupied %d, Room %d, not %d, %d", d.Occupied(), d.Room(), m.occupied(), m.room)
	}
	for _, text := range append(slices.Clone(otherTexts), trialNames...) {
		s := m.named[text]
		if text == "" {
			s = m.current
		}
		if s != nil {
			c.compareTree(text, s, x, y)
		} else if h, e := d.Handle(text); h != 0 || e != api.ErrMissing {
			c.t.Fatalf("Handle(%q) = %d, %d", text, h, e)
		}
	}
	held(c.t, "script", d)
}

// compareTree holds one tree against what it is in the model. Of great lists a piece is asked for each time.
func (c *trial) compareTree(name string, s *state, x, y byte) {
	c.t.Helper()
	d := c.d
	if root, e := d.Root(name); root != s.root || e != api.OK {
		c.t.Fatalf("Root(%q) = %x, %d, not %x", name, root, e, s.root)
	}
	if n, e := d.Len(name); n != len(s.entries) || e != api.OK {
		c.t.Fatalf("Len(%q) = %d, %d, not %d", name, n, e, len(s.entries))
	}
	for _, k := range pool() {
		v, there, e := d.Get(name, k[:])
		if want, is := s.entries[k]; string(v) != want || there != is || e != api.OK {
			c.t.Fatalf("Get(%q, %x) = %q, %t, %d", name, k, v, there, e)
		}
	}
	from, most := path(key(x)), int(y)%30
	l := slices.DeleteFunc(pairs(s.entries), func(p api.Pair) bool { return strings.Compare(string(p.Key[:]), string(from[:])) < 0 })
	if got, e := d.Some(name, from[:], most); e != api.OK || !slices.EqualFunc(got, l[:min(len(l), most)], likePairs) {
		c.t.Fatalf("Some(%q, %x, %d) = %v, %d", name, from, most, got, e)
	}
}

// emptied lets all go: then no slot is occupied.
func (c *trial) emptied() {
	c.t.Helper()
	for _, name := range c.d.Names() {
		prune(c.t, c.d, name)
		c.m.prune(name)
		c.compare(0, 29)
	}
	snapshot(c.t, c.d, "last")
	for len(c.m.current.entries) > 0 {
		k := pairs(c.m.current.entries)[0].Key
		prune(c.t, c.d, "last")
		if _, e := c.d.Delete(k[:]); e == api.ErrStoreFull {
			return // a store this full is written to no more
		}
		c.m.write([]api.Raw{gone(k)})
		snapshot(c.t, c.d, "last")
	}
	prune(c.t, c.d, "last")
	occupied(c.t, "emptied", c.d, 0)
}

func TestScripts(t *testing.T) {
	for _, room := range []int{259, 300, 520, 900, 2000, 6000, 20000} {
		for seed := range 2 {
			c := newTrial(t, room)
			numbers := chance(100*room + seed)
			for range 350 {
				c.step(numbers.next(), numbers.next(), numbers.next())
			}
			c.emptied()
		}
	}
}

// The same calls in the same order answer the same, handles too, in another dictionary.
func TestAnswersHangOnTheCallsAlone(t *testing.T) {
	var first string
	for range 4 {
		c := newTrial(t, 5000)
		numbers := chance(9)
		for range 120 {
			c.step(numbers.next(), numbers.next(), numbers.next())
		}
		if first == "" {
			first = told(c.d)
		}
		if now := told(c.d); now != first {
			t.Fatalf("another time:\n%snot\n%s", now, first)
		}
	}
}

func FuzzScript(f *testing.F) {
	f.Add(byte(3), []byte{0, 0, 1, 8, 0, 0, 0, 1, 1, 6, 3, 4, 10, 0, 0, 11, 0, 0, 4, 0, 0})
	f.Add(byte(0), []byte{0, 0, 0, 0, 1, 0, 8, 13, 0, 4, 1, 0, 10, 13, 0, 11, 13, 0})
	f.Fuzz(func(t *testing.T, room byte, steps []byte) {
		c := newTrial(t, []int{1, 257, 259, 600, 3000, 20000}[int(room)%6])
		steps = steps[:min(len(steps), 240)] // longer scripts show no more, and take long
		for ; len(steps) >= 3; steps = steps[3:] {
			c.step(steps[0], steps[1], steps[2])
		}
		c.emptied()
	})
}
