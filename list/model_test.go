package list_test

import (
	"bytes"
	"iter"
	"maps"
	"math"
	"slices"
	"testing"

	"rootcellar/api"
	"rootcellar/batch"
	"rootcellar/drop"
	"rootcellar/list"
	"rootcellar/put"
	"rootcellar/store"
)

// row is all that a store tells of a handle.
type row struct {
	handle, depth, left, right, size, count, held int
	kind                                          api.Kind
	key                                           api.Path
	value                                         string
	digest                                        api.Hash
}

// rows tells all of a store's nodes, by rising handle.
func rows(s *store.Store) []row {
	var l []row
	for _, h := range s.Handles() {
		left, right := s.Sides(h)
		l = append(l, row{
			handle: h, depth: s.Depth(h), left: left, right: right, size: s.Size(h), count: s.Count(h), held: s.Held(h),
			kind: s.Kind(h), key: s.Key(h), value: string(s.Value(h)), digest: s.Digest(h),
		})
	}
	return l
}

// same sees that a store is what it was.
func same(t testing.TB, when string, s *store.Store, before []row) {
	t.Helper()
	if after := rows(s); !slices.Equal(after, before) {
		t.Fatalf("%s: the store is another one behind it: of %d nodes, not %d", when, len(after), len(before))
	}
}

// collect tells what an iterator goes over.
func collect(all iter.Seq2[api.Path, []byte]) []api.Pair {
	var l []api.Pair
	for key, value := range all {
		l = append(l, api.Pair{Key: key, Value: value})
	}
	return l
}

// alike tells whether two lists have the same entries in the same order.
func alike(a, b []api.Pair) bool {
	return slices.EqualFunc(a, b, func(p, q api.Pair) bool { return p.Key == q.Key && bytes.Equal(p.Value, q.Value) })
}

// ordered tells entries by rising key.
func ordered(l []api.Pair) []api.Pair {
	l = slices.Clone(l)
	slices.SortFunc(l, func(p, q api.Pair) int { return bytes.Compare(p.Key[:], q.Key[:]) })
	return l
}

// entries tells, by rising key, those that writes leave, the last write of each key.
func entries(w []api.Write) []api.Pair {
	m := map[api.Path]string{}
	for _, x := range w {
		m[x.Key] = string(x.Value)
		if x.Gone {
			delete(m, x.Key)
		}
	}
	return pairs(m)
}

// pairs tells a map's entries by rising key.
func pairs(m map[api.Path]string) []api.Pair {
	var l []api.Pair
	for key, value := range m {
		l = append(l, pair(key, value))
	}
	return ordered(l)
}

// rankOf tells in the chapter's words how many have a key ahead of key.
func rankOf(l []api.Pair, key api.Path) int {
	n := 0
	for _, p := range l {
		if bytes.Compare(p.Key[:], key[:]) < 0 {
			n++
		}
	}
	return n
}

// fromOf tells those whose key is not ahead of key.
func fromOf(l []api.Pair, key api.Path) []api.Pair {
	var next []api.Pair
	for _, p := range l {
		if bytes.Compare(p.Key[:], key[:]) >= 0 {
			next = append(next, p)
		}
	}
	return next
}

// betweenOf tells how many have a key not ahead of from and not behind to.
func betweenOf(l []api.Pair, from, to api.Path) int {
	n := 0
	for _, p := range l {
		if bytes.Compare(p.Key[:], from[:]) >= 0 && bytes.Compare(p.Key[:], to[:]) <= 0 {
			n++
		}
	}
	return n
}

// spread tells at most so many of the numbers below n, the first ones and the last ones among them.
func spread(n, most int) []int {
	var l []int
	for i := range n {
		if i < 3 || i >= n-3 || i*most/n != (i-1)*most/n {
			l = append(l, i)
		}
	}
	return l
}

// probes tells keys to ask for: the ends, some that are there, those ahead and behind, and some that share first bits with them.
func probes(l []api.Pair) []api.Path {
	keys := []api.Path{keyZ, keyO, keyX, keyY, keyN, ahead(keyN), scattered(9999)}
	for _, i := range spread(len(l), 6) {
		k := l[i].Key
		keys = append(keys, k, ahead(k), behind(k), flip(k, i%256), flip(k, 255-i%256))
	}
	slices.SortFunc(keys, func(a, b api.Path) int { return bytes.Compare(a[:], b[:]) })
	return slices.Compact(keys)
}

// lists holds all answers of a root against its entries, and sees that the store stays as it is.
func lists(t testing.TB, when string, s *store.Store, root int, l []api.Pair) {
	t.Helper()
	before := rows(s)
	if n, e := list.Count(s, root); n != len(l) || e != api.OK {
		t.Fatalf("%s: Count(%d) = %d, %d, not %d", when, root, n, e, len(l))
	}
	all := list.All(s, root)
	for range 2 {
		if got := collect(all); !alike(got, l) {
			t.Fatalf("%s: All(%d) goes over\n%v\nnot\n%v", when, root, got, l)
		}
	}
	keys := probes(l)
	for i, key := range keys {
		fromKey(t, when, s, root, l, key)
		for _, to := range spread(len(keys), 10) {
			if n, e := list.Between(s, root, key, keys[to]); n != betweenOf(l, key, keys[to]) || e != api.OK {
				t.Fatalf("%s: Between(%d, %x, %x) = %d, %d, not %d", when, root, key, keys[to], n, e, betweenOf(l, key, keys[to]))
			}
			if to < i && betweenOf(l, key, keys[to]) != 0 {
				t.Fatalf("%x is not ahead of %x", keys[to], key)
			}
		}
	}
	places(t, when, s, root, l)
	same(t, when, s, before)
}

// fromKey holds what is told of one key against the entries.
func fromKey(t testing.TB, when string, s *store.Store, root int, l []api.Pair, key api.Path) {
	t.Helper()
	rank, rest := rankOf(l, key), fromOf(l, key)
	if n, e := list.Rank(s, root, key); n != rank || e != api.OK {
		t.Fatalf("%s: Rank(%d, %x) = %d, %d, not %d", when, root, key, n, e, rank)
	}
	if !alike(rest, l[rank:]) {
		t.Fatalf("%s: entries do not rise", when)
	}
	if got := collect(list.From(s, root, key)); !alike(got, rest) {
		t.Fatalf("%s: From(%d, %x) goes over\n%v\nnot\n%v", when, root, key, got, rest)
	}
	for _, most := range []int{0, 1, 2, len(rest) - 1, len(rest), len(rest) + 1, 255, 256} {
		if most < 0 || most > 256 {
			continue
		}
		if got, e := list.Some(s, root, key, most); !alike(got, rest[:min(most, len(rest))]) || e != api.OK {
			t.Fatalf("%s: Some(%d, %x, %d) = %v, %d, not the first of %v", when, root, key, most, got, e, rest)
		}
	}
	for _, most := range []int{-1, 257, math.MinInt, math.MaxInt} {
		if got, e := list.Some(s, root, key, most); len(got) > 0 || e != api.ErrArg {
			t.Fatalf("%s: Some(%d, %x, %d) = %v, %d", when, root, key, most, got, e)
		}
	}
}

// places holds what is told of places against the entries, and against what is told of their keys.
func places(t testing.TB, when string, s *store.Store, root int, l []api.Pair) {
	t.Helper()
	for _, n := range spread(len(l), 300) {
		p, e := list.Nth(s, root, n)
		if p.Key != l[n].Key || !bytes.Equal(p.Value, l[n].Value) || e != api.OK {
			t.Fatalf("%s: Nth(%d, %d) = %v, %d, not %v", when, root, n, p, e, l[n])
		}
		if rank, e := list.Rank(s, root, p.Key); rank != n || e != api.OK {
			t.Fatalf("%s: the Rank of the entry %d is %d, %d", when, n, rank, e)
		}
		if rank, e := list.Rank(s, root, behind(p.Key)); p.Key != keyN && (rank != n+1 || e != api.OK) {
			t.Fatalf("%s: the Rank behind the entry %d is %d, %d", when, n, rank, e)
		}
	}
	for n, want := range map[int]api.Errno{-1: api.ErrArg, math.MinInt: api.ErrArg, len(l): api.ErrMissing, len(l) + 1: api.ErrMissing, math.MaxInt: api.ErrMissing} {
		if p, e := list.Nth(s, root, n); p.Key != keyZ || p.Value != nil || e != want {
			t.Fatalf("%s: Nth(%d, %d) = %v, %d, not %d", when, root, n, p, e, want)
		}
	}
}

// spoil writes over a list, its spare room too.
func spoil(b []byte) {
	b = b[:cap(b)]
	for i := range b {
		b[i] = 0xee
	}
}

// version is a root that callers hold once, and its entries.
type version struct {
	root    int
	entries map[api.Path]string
}

// trial is a store with all that callers hold of it, and iterators with what they go over.
type trial struct {
	t        testing.TB
	s        *store.Store
	versions []version
	running  []running
}

// running is an iterator that was given once, and what was there then.
type running struct {
	all  iter.Seq2[api.Path, []byte]
	want []api.Pair
}

func newTrial(t testing.TB, room int) *trial {
	t.Helper()
	return &trial{t: t, s: fresh(t, room)}
}

// hold has a version twice from now on, so that each of them may be written by itself.
func (c *trial) hold(i int) {
	c.t.Helper()
	v := c.versions[i]
	if v.root != 0 {
		hold(c.t, c.s, v.root)
	}
	c.versions = append(c.versions, version{v.root, maps.Clone(v.entries)})
}

func (c *trial) letGo(i int) {
	c.t.Helper()
	if root := c.versions[i].root; root != 0 {
		letGo(c.t, c.s, root)
	}
	c.versions = slices.Delete(c.versions, i, i+1)
}

// write has a version's writes done: as one batch, or one by one.
func (c *trial) write(i int, l []api.Write, together bool) {
	c.t.Helper()
	v := &c.versions[i]
	var e api.Errno
	if together {
		v.root, e = batch.Apply(c.s, v.root, l)
	}
	for _, w := range l {
		if e != api.OK {
			c.t.Fatalf("a write of %d = %d", len(l), e)
		}
		if w.Gone {
			delete(v.entries, w.Key)
		} else {
			v.entries[w.Key] = string(w.Value)
		}
		switch {
		case together:
		case w.Gone:
			v.root, _, e = drop.Drop(c.s, v.root, w.Key)
		default:
			v.root, e = put.Put(c.s, v.root, w.Key, w.Value)
		}
	}
	if e != api.OK {
		c.t.Fatalf("a write of %d = %d", len(l), e)
	}
}

// chance tells numbers that no pattern is seen in.
type chance uint32

func (c *chance) next() byte {
	*c = *c*1664525 + 1013904223
	return byte(*c >> 24)
}

// pool are keys that part at the first bits, at the last ones, and in the midst.
func pool() []api.Path {
	l := []api.Path{keyZ, keyO, keyX, keyY, keyN}
	for i := range 8 {
		l = append(l, api.Path{0: byte(i << 5)}, near(i), scattered(i), ladder(20+3*i), stair(200+i))
	}
	return l
}

// writes makes n of them, of keys of the pool.
func (c *chance) writes(n int) []api.Write {
	var l []api.Write
	keys := pool()
	for range n {
		w := gone(keys[int(c.next())%len(keys)])
		if c.next() < 170 {
			w = set(w.Key, int(c.next())%5)
		}
		l = append(l, w)
	}
	return l
}

// run starts an iterator of a version, over all of it or from a key on.
func (c *trial) run(i int, numbers *chance) {
	v := c.versions[i]
	if key := pool()[int(numbers.next())%len(pool())]; numbers.next()%2 == 0 {
		c.running = append(c.running, running{list.From(c.s, v.root, key), fromOf(pairs(v.entries), key)})
	} else {
		c.running = append(c.running, running{list.All(c.s, v.root), pairs(v.entries)})
	}
}

// step does what three bytes say.
func (c *trial) step(what, x, y byte) {
	c.t.Helper()
	numbers := chance(uint32(what)<<16 + uint32(x)<<8 + uint32(y))
	if len(c.versions) == 0 {
		c.versions = append(c.versions, version{0, map[api.Path]string{}})
	}
	i := int(x) % len(c.versions)
	most := min((c.s.Room()-c.s.Occupied())/258, 64) // as many keys as there is room for
	switch {
	case what%8 == 0 && len(c.versions) < 12:
		c.hold(i)
	case what%8 == 1 || most < 2:
		c.letGo(i)
	case what%8 == 2:
		c.run(i, &numbers)
	case what%8 < 5:
		c.write(i, numbers.writes(1), false)
	default:
		c.write(i, numbers.writes(1+int(y)%(most-1)), true)
	}
	if len(c.versions) > 0 {
		v := c.versions[int(y)%len(c.versions)]
		lists(c.t, "behind a step", c.s, v.root, pairs(v.entries))
	}
}

// settle holds all versions, and all iterators that were ever given, against what was there.
func (c *trial) settle() {
	c.t.Helper()
	for _, v := range c.versions {
		lists(c.t, "behind all steps", c.s, v.root, pairs(v.entries))
	}
	for len(c.versions) > 0 {
		c.letGo(len(c.versions) / 2)
	}
	if c.s.Occupied() != 0 {
		c.t.Fatalf("%d slots are occupied, and callers hold nothing", c.s.Occupied())
	}
	for _, r := range c.running {
		if got := collect(r.all); !alike(got, r.want) {
			c.t.Fatalf("an iterator goes over %v, not %v", got, r.want)
		}
	}
}

func TestScripts(t *testing.T) {
	steps := 50
	if testing.Short() {
		steps = 20
	}
	for _, room := range []int{600, 1300, 3000, 6000, 17000} {
		for seed := range 2 {
			c := newTrial(t, room)
			numbers := chance(100*room + seed)
			for range steps {
				c.step(numbers.next(), numbers.next(), numbers.next())
			}
			c.settle()
		}
	}
}

func FuzzScript(f *testing.F) {
	f.Add(byte(80), []byte{3, 0, 1, 0, 0, 4, 0, 11, 1, 2, 3, 3, 1, 0, 0, 6, 1, 4, 3})
	f.Add(byte(250), noise(120))
	f.Fuzz(func(t *testing.T, room byte, steps []byte) {
		c := newTrial(t, 600+20*int(room))
		steps = steps[:min(len(steps), 90)] // longer scripts show no more, and take long
		for ; len(steps) >= 3; steps = steps[3:] {
			c.step(steps[0], steps[1], steps[2])
		}
		c.settle()
	})
}

// What is asked for is any key, any place, any number, of any handle: the answers are the definition's.
func FuzzAsk(f *testing.F) {
	f.Add(1, 0, 5, []byte{64}, []byte{128})
	f.Add(0, -1, 257, []byte{}, bytes.Repeat([]byte{0xff}, 32))
	f.Fuzz(func(t *testing.T, root, n, most int, one, two []byte) {
		s := fresh(t, 4000)
		w := many(12, scattered)
		top := grown(t, s, 0, w...)
		var from, to api.Path
		copy(from[:], one)
		copy(to[:], two)
		if s.Root(root) != api.OK {
			refuses(t, "any handle", s, root, s.Root(root))
			root = top
		}
		l := entries(w)
		if root != top {
			l = slices.DeleteFunc(l, func(p api.Pair) bool { return root == 0 || p.Key != s.Key(root) })
		}
		fromKey(t, "any key", s, root, l, from)
		fromKey(t, "any key", s, root, l, to)
		if got, e := list.Between(s, root, from, to); got != betweenOf(l, from, to) || e != api.OK {
			t.Fatalf("Between(%x, %x) = %d, %d, not %d", from, to, got, e, betweenOf(l, from, to))
		}
		if p, e := list.Nth(s, root, n); e == api.OK && (p.Key != l[n].Key || !bytes.Equal(p.Value, l[n].Value)) || e != placeError(n, len(l)) {
			t.Fatalf("Nth(%d) = %v, %d", n, p, e)
		}
		got, e := list.Some(s, root, from, most)
		if rest := fromOf(l, from); most < 0 || most > 256 {
			if len(got) > 0 || e != api.ErrArg {
				t.Fatalf("Some(%x, %d) = %v, %d", from, most, got, e)
			}
		} else if !alike(got, rest[:min(most, len(rest))]) || e != api.OK {
			t.Fatalf("Some(%x, %d) = %v, %d", from, most, got, e)
		}
	})
}

// placeError tells Nth's error at a place of so many entries.
func placeError(n, count int) api.Errno {
	switch {
	case n < 0:
		return api.ErrArg
	case n >= count:
		return api.ErrMissing
	}
	return api.OK
}
