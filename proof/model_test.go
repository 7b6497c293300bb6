package proof_test

import (
	"bytes"
	"fmt"
	"maps"
	"slices"
	"testing"

	"rootcellar/api"
	"rootcellar/dict"
	"rootcellar/node"
	"rootcellar/proof"
	"rootcellar/tag"
)

// part tells the entries whose bit d is that of a key, and the others.
func part(l []api.Pair, d int, key api.Path) (mine, others []api.Pair) {
	for _, p := range l {
		if bit(p.Key, d) == bit(key, d) {
			mine = append(mine, p)
		} else {
			others = append(others, p)
		}
	}
	return mine, others
}

// rootAt tells the root of entries at a depth, in the document's words.
func rootAt(l []api.Pair, d int) api.Hash {
	switch len(l) {
	case 0:
		return tag.Empty()
	case 1:
		return tag.Leaf(l[0].Key, tag.Value(l[0].Value))
	}
	left, right := part(l, d, api.Path{})
	return tag.Inner(rootAt(left, d+1), rootAt(right, d+1))
}

// wayOf tells a key's way among entries, in the document's words.
func wayOf(l []api.Pair, key api.Path) api.Proof {
	var p api.Proof
	for d := 0; len(l) > 1; d++ {
		mine, others := part(l, d, key)
		p.Sides = append(p.Sides, rootAt(others, d+1))
		l = mine
	}
	if len(l) == 1 {
		p.End = leafOf(l[0].Key, string(l[0].Value))
	}
	return p
}

// pairs tells a map's entries.
func pairs(m map[api.Path]string) []api.Pair {
	var l []api.Pair
	for k, v := range m {
		l = append(l, api.Pair{Key: k, Value: []byte(v)})
	}
	slices.SortFunc(l, func(a, b api.Pair) int { return bytes.Compare(a.Key[:], b.Key[:]) })
	return l
}

// follows holds the proof of a key in a tree against the entries that are there: what it is, what it says, that it holds under the root alone, and how many of its sides are not empty.
func follows(t testing.TB, when string, d *dict.Dict, name string, l []api.Pair, key api.Path) {
	t.Helper()
	p, root := prove(t, d, name, key), rootOf(t, d, name)
	if want := wayOf(l, key); !likeProofs(p, want) {
		t.Fatalf("%s: Prove(%q, %x) = %x, not %x", when, name, key, p, want)
	}
	value, there, e := d.Get(name, key[:])
	ok, h := proof.Says(key, p)
	if e != api.OK || ok != there || there && h != tag.Value(value) || !there && h != (api.Hash{}) {
		t.Fatalf("%s: Says(%x) = %t, %x, but Get = %x, %t, %d", when, key, ok, h, value, there, e)
	}
	if ok, e := proof.Holds(root, key, p); !ok || e != api.OK {
		t.Fatalf("%s: Holds(%x, %x) = %t, %d", when, root, key, ok, e)
	}
	other := root
	other[len(l)%32] ^= 1
	if ok, e := proof.Holds(other, key, p); ok || e != api.OK {
		t.Fatalf("%s: Holds under another root = %t, %d", when, ok, e)
	}
	n, sides := proof.Short(p), 0
	for _, side := range p.Sides {
		if side != tag.Empty() {
			sides++
		}
	}
	if n != sides || n > max(len(l)-1, 0) {
		t.Fatalf("%s: Short(%x) = %d of %d sides that are not empty, in a map of %d", when, p, n, sides, len(l))
	}
}

// beside tells keys that part from one at several bits.
func beside(k api.Path) []api.Path {
	l := []api.Path{k}
	for _, d := range []int{0, 1, 2, 3, 5, 8, 13, 127, 128, 200, 248, 253, 254, 255} {
		l = append(l, flip(k, d))
	}
	return l
}

// The proofs of maps of several forms and sizes, of keys that are there and keys beside them.
func TestProofsOfMaps(t *testing.T) {
	kinds := map[string]func(int) api.Path{"scattered": scattered, "near": near, "a ladder": ladder}
	for _, kind := range slices.Sorted(maps.Keys(kinds)) {
		for _, n := range []int{0, 1, 2, 3, 4, 17, 40} {
			m := map[api.Path]string{}
			d := of(t)
			for i := range n {
				m[kinds[kind](i)] = valueAt(i)
				put(t, d, kinds[kind](i), valueAt(i))
			}
			l := pairs(m)
			if root, e := node.Root(l); rootOf(t, d, "") != root || e != api.OK {
				t.Fatalf("%d %s: Root = %x, not %x, %d", n, kind, rootOf(t, d, ""), root, e)
			}
			unchanged(t, kind, d, func() {
				for i := range n + 2 {
					for _, k := range beside(kinds[kind](i)) {
						follows(t, fmt.Sprint(n, " ", kind), d, "", l, k)
					}
				}
			})
		}
	}
}

// A ladder's last key has as many sides that are not empty as there may be: one for each other entry.
func TestAsManySidesAsThereMayBe(t *testing.T) {
	for _, n := range []int{1, 2, 3, 60} {
		m := map[api.Path]string{keyZ: ""}
		d := of(t)
		put(t, d, keyZ, "")
		for i := range n - 1 {
			m[ladder(i)] = valueAt(i)
			put(t, d, ladder(i), valueAt(i))
		}
		follows(t, "a ladder", d, "", pairs(m), keyZ)
		short(t, fmt.Sprint("a ladder of ", n), prove(t, d, "", keyZ), n-1)
	}
}

// All 256 sides of a proof not empty: a ladder of all bits.
func TestLadderOfAllBits(t *testing.T) {
	m := map[api.Path]string{keyZ: "z"}
	d := of(t)
	put(t, d, keyZ, "z")
	for i := range 256 {
		m[ladder(i)] = valueAt(i)
		put(t, d, ladder(i), valueAt(i))
	}
	l := pairs(m)
	for _, k := range []api.Path{keyZ, keyO, keyY, keyN, ladder(100), near(3)} {
		follows(t, "all bits", d, "", l, k)
	}
	short(t, "Z", prove(t, d, "", keyZ), 256)
	short(t, "O", prove(t, d, "", keyO), 256)
	short(t, "Y", prove(t, d, "", keyY), 1)
}

// More entries than node.Root takes.
func TestMoreEntriesThanAListMayHave(t *testing.T) {
	d := fresh(t, api.MaxNodes)
	m := map[api.Path]string{}
	for i := 0; i < 4200; {
		var l []api.Raw
		for range 60 {
			k, v := scattered(i), []byte{byte(i)}
			l = append(l, api.Raw{Key: k[:], Value: v})
			m[k] = string(v)
			i++
		}
		write(t, d, l...)
	}
	l := pairs(m)
	for _, i := range []int{0, 1, 2000, 4199, 4200, 5000} {
		follows(t, "many", d, "", l, scattered(i))
		follows(t, "many", d, "", l, flip(scattered(i), 200))
	}
	follows(t, "many", d, "", l, keyZ)
}

// A trial is a dictionary beside the maps that it should have, by name.
type trial struct {
	t    testing.TB
	d    *dict.Dict
	maps map[string]map[api.Path]string
}

func newTrial(t testing.TB, room int) *trial {
	t.Helper()
	return &trial{t, fresh(t, room), map[string]map[api.Path]string{"": {}}}
}

// pool are the keys of scripts: some part at the first bits, some amid, some at the last ones.
func pool() []api.Path {
	l := []api.Path{keyZ, keyO, keyX, keyY, keyN, flip(keyN, 255), flip(keyY, 128), flip(keyX, 200)}
	for i := range 4 {
		l = append(l, scattered(i), near(i+2), ladder(3*i+1))
	}
	return l
}

// step does what three bytes say: a put, a delete, a batch, a snapshot, a rollback or a prune.
func (c *trial) step(what, x, y byte) {
	c.t.Helper()
	l := pool()
	k, v, name := l[int(x)%len(l)], valueAt(int(y)%7), sixteen[x%5]
	switch what % 8 {
	case 0, 1, 2:
		c.write(c.d.Put(k[:], []byte(v)), func(m map[api.Path]string) { m[k] = v })
	case 3:
		_, e := c.d.Delete(k[:])
		c.write(e, func(m map[api.Path]string) { delete(m, k) })
	case 4:
		o := l[int(y)%len(l)]
		c.write(c.d.Batch([]api.Raw{{Key: k[:], Value: []byte(v)}, {Key: o[:], Gone: true}}), func(m map[api.Path]string) {
			m[k] = v
			delete(m, o)
		})
	case 5:
		if c.d.Snapshot(name) == api.OK {
			c.maps[name] = c.maps[""]
		}
	case 6:
		if c.d.Rollback(name) == api.OK {
			c.maps[""] = c.maps[name]
		}
	case 7:
		if c.d.Prune(name) == api.OK {
			delete(c.maps, name)
		}
	}
}

// write has the current map changed as a write changed the dictionary's, unless it was refused for want of room.
func (c *trial) write(e api.Errno, change func(map[api.Path]string)) {
	c.t.Helper()
	switch e {
	case api.OK:
		c.maps[""] = maps.Clone(c.maps[""])
		change(c.maps[""])
	case api.ErrStoreFull:
	default:
		c.t.Fatalf("a write = %d", e)
	}
}

// compare holds the proofs of some keys under all names against the maps.
func (c *trial) compare(keys ...api.Path) {
	c.t.Helper()
	unchanged(c.t, "proofs", c.d, func() {
		for _, name := range append([]string{"", "missing"}, sixteen[:5]...) {
			m, there := c.maps[name]
			for _, k := range keys {
				if there {
					follows(c.t, "script", c.d, name, pairs(m), k)
				} else {
					unproved(c.t, "script", c.d, name, k[:], api.ErrMissing)
				}
				unproved(c.t, "script", c.d, name, k[:31], api.ErrKey)
			}
		}
	})
}

// chance tells numbers that no pattern is seen in.
type chance uint32

func (c *chance) next() byte {
	*c = *c*1664525 + 1013904223
	return byte(*c >> 24)
}

func TestScripts(t *testing.T) {
	for _, room := range []int{260, 700, 6000} {
		c := newTrial(t, room)
		numbers := chance(room)
		for i := range 150 {
			c.step(numbers.next(), numbers.next(), numbers.next())
			c.compare(pool()[i%len(pool())], flip(scattered(i%4), i))
		}
		c.compare(pool()...)
	}
}

// The same calls in the same order answer the same in another dictionary: nothing hangs on the order of a map, or on an address.
func TestAnswersHangOnTheCallsAlone(t *testing.T) {
	one, two := newTrial(t, 5000), newTrial(t, 5000)
	numbers := chance(9)
	for range 80 {
		what, x, y := numbers.next(), numbers.next(), numbers.next()
		one.step(what, x, y)
		two.step(what, x, y)
		for _, k := range pool() {
			proves(t, two.d, "", k, prove(t, one.d, "", k))
		}
	}
}

func FuzzScript(f *testing.F) {
	f.Add(byte(2), []byte{0, 0, 1, 5, 0, 0, 0, 1, 1, 4, 3, 4, 6, 0, 0, 7, 0, 0, 3, 0, 0}, []byte{0, 1, 2, 255})
	f.Add(byte(0), []byte{0, 0, 0, 0, 1, 0, 5, 13, 0, 3, 1, 0, 6, 13, 0, 7, 13, 0}, []byte{})
	f.Fuzz(func(t *testing.T, room byte, steps, turned []byte) {
		c := newTrial(t, []int{1, 259, 600, 3000, 20000}[int(room)%5])
		steps = steps[:min(len(steps), 120)] // longer scripts show no more, and take long
		for ; len(steps) >= 3; steps = steps[3:] {
			c.step(steps[0], steps[1], steps[2])
		}
		key := keyZ
		for _, d := range turned[:min(len(turned), 9)] {
			key = flip(key, int(d))
		}
		c.compare(append(pool(), key)...)
	})
}
