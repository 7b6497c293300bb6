package verify_test

import (
	"fmt"
	"slices"
	"testing"

	"rootcellar/api"
	"rootcellar/dict"
	"rootcellar/pack"
	"rootcellar/proof"
	"rootcellar/verify"
)

// entry is an entry of a map, its key's bits beside it.
type entry struct {
	key   api.Path
	bits  string
	value []byte
}

// plain is a map by definition: its root and its ways are told by the document's words alone.
type plain []entry

func plainOf(l []api.Pair) plain {
	var m plain
	for _, p := range l {
		m = append(m, entry{p.Key, digits(p.Key), p.Value})
	}
	return m
}

// parted tells the entries whose bit at a depth is 0, and the others.
func (m plain) parted(d int) (left, right plain) {
	for _, e := range m {
		if e.bits[d] == '0' {
			left = append(left, e)
		} else {
			right = append(right, e)
		}
	}
	return left, right
}

// rootAt tells the root at a depth.
func (m plain) rootAt(d int) api.Hash {
	switch len(m) {
	case 0:
		return empty
	case 1:
		return leafOf(m[0].key, valueOf(m[0].value))
	}
	left, right := m.parted(d)
	return innerOf(left.rootAt(d+1), right.rootAt(d+1))
}

// way tells the bytes of a key's way.
func (m plain) way(key api.Path) []byte {
	var l []api.Hash
	bits := digits(key)
	for d := 0; len(m) > 1; d++ {
		on, off := m.parted(d)
		if bits[d] == '1' {
			on, off = off, on
		}
		l = append(l, off.rootAt(d+1))
		m = on
	}
	if len(m) == 0 {
		return packed(l, api.Node{})
	}
	return packed(l, leaf(m[0].key, valueOf(m[0].value)))
}

// find tells a key's value, if it is there.
func (m plain) find(key api.Path) ([]byte, bool) {
	i := slices.IndexFunc(m, func(e entry) bool { return e.key == key })
	if i < 0 {
		return nil, false
	}
	return m[i].value, true
}

// wayHolds sees that the bytes of a key's way are accepted under the root, and say what is there.
func wayHolds(t testing.TB, when string, root api.Hash, m plain, key api.Path, b []byte) {
	t.Helper()
	if value, ok := m.find(key); ok {
		there(t, when, root, key, value, b)
	} else {
		absent(t, when, root, key, b)
	}
}

// holdsOf sees that node's root and its ways of keys are those of the words, and that all calls hold of them.
func holdsOf(t testing.TB, when string, l []api.Pair, keys ...api.Path) {
	t.Helper()
	m, root := plainOf(l), rootOf(t, l)
	if h := m.rootAt(0); h != root {
		t.Fatalf("%s: the root is %x, not %x", when, root, h)
	}
	for i, key := range keys {
		b := wayOf(t, l, key)
		if own := m.way(key); !slices.Equal(b, own) {
			t.Fatalf("%s: the way of %x is %s, not %s", when, key, brief(b), brief(own))
		}
		wayHolds(t, when, root, m, key, b)
		if i%5 == 0 {
			nowhereElse(t, when, root, key, b)
		}
	}
}

// pairs tells entries of keys, each with a value of its own: some are empty, some alike, one is as long as may be.
func pairs(keys ...api.Path) []api.Pair {
	l := make([]api.Pair, len(keys))
	for i, k := range keys {
		l[i] = api.Pair{Key: k, Value: some(i * 5 % 37)}
		if i%50 == 3 {
			l[i].Value = longest
		}
	}
	return l
}

// Maps of none, one and two entries: all keys of theirs, and such that part from them anywhere.
func TestSmallMaps(t *testing.T) {
	holdsOf(t, "no entry", nil, keyZ, keyO, keyX, keyY, keyN)
	for d := range 256 {
		a := scattered(d)
		b := api.Path(flip(a, d))
		holdsOf(t, fmt.Sprint("one entry, ", d), pairs(a), a, b)
		keys := []api.Path{a, b}
		for _, at := range []int{0, d / 2, d - 1, d + 1, 255} {
			if at >= 0 && at < 256 {
				keys = append(keys, flip(a, at), flip(b, at))
			}
		}
		if d%8 < 2 {
			holdsOf(t, fmt.Sprint("two entries, ", d), pairs(a, b), keys...)
		}
	}
}

// A ladder: 257 keys, each of which parts from the way of noughts one bit deeper. Its greatest proof has 8,291 bytes.
func TestLadder(t *testing.T) {
	keys := []api.Path{keyZ}
	for d := range 256 {
		keys = append(keys, flip(keyZ, d))
	}
	l := pairs(keys...)
	m, root := plainOf(l), rootOf(t, l)
	for i, key := range keys {
		if i%16 > 1 {
			continue
		}
		wayHolds(t, "the ladder", root, m, key, wayOf(t, l, key))
		beside := api.Path(flip(flip(key, 200), 255))
		wayHolds(t, "beside the ladder", root, m, beside, wayOf(t, l, beside))
	}
	if b := wayOf(t, l, keyO); len(b) != 8291 || !verify.Present(root, keyO, l[256].Value, b) {
		t.Errorf("the greatest proof has %d bytes", len(b))
	}
}

// drawn tells keys that have many first bits in common, or few.
func (c *chance) drawn(n int) []api.Path {
	seen := map[api.Path]bool{}
	var l []api.Path
	for len(l) < n {
		k := scattered(c.below(10000))
		if len(l) > 0 && c.below(3) > 0 {
			k = flip(l[c.below(len(l))], c.below(256))
		}
		if !seen[k] {
			seen[k] = true
			l = append(l, k)
		}
	}
	return l
}

// Drawn entries and keys, of which some are there and some are not: all calls beside each other; each key's bytes are asked for other keys and under other maps' roots, too.
func TestDrawnMaps(t *testing.T) {
	if testing.Short() {
		t.Skip("takes some seconds")
	}
	c := chance(18)
	var before api.Hash
	for i := range 30 {
		l := pairs(c.drawn(c.below(30))...)
		m, root := plainOf(l), rootOf(t, l)
		when := fmt.Sprint("the map ", i, " of ", len(l))
		keys := c.drawn(10)
		for _, p := range l {
			keys = append(keys, p.Key, flip(p.Key, c.below(256)))
		}
		holdsOf(t, when, l, keys...)
		for j, key := range keys {
			other := keys[c.below(len(keys))]
			if _, e := verify.Read(root, other, m.way(key)); e == api.OK { // the ways of both end alike
				wayHolds(t, when, root, m, other, m.way(key))
			}
			if j%4 == 0 {
				byWords(t, when, root, other, m.way(key))
				byWords(t, when, before, key, m.way(key))
			}
		}
		before = root
	}
}

// Maps that are unlike in one entry: what is accepted under one's root is refused under the other's.
func TestMapsThatAreUnlike(t *testing.T) {
	c := chance(7)
	for i := range 12 {
		l := pairs(c.drawn(2 + 3*i)...)
		root := rootOf(t, l)
		at := c.below(len(l))
		less, other, more := slices.Delete(slices.Clone(l), at, at+1), slices.Clone(l), append(slices.Clone(l), api.Pair{Key: scattered(20000)})
		other[at].Value = append(slices.Clone(other[at].Value[:min(1000, len(other[at].Value))]), 1)
		for when, one := range map[string][]api.Pair{"one less": less, "another value": other, "one more": more} {
			r := rootOf(t, one)
			for _, p := range append(l, api.Pair{Key: scattered(20000)}, api.Pair{Key: keyX}) {
				untrue(t, when, r, p.Key, wayOf(t, l, p.Key))
				untrue(t, when, root, p.Key, wayOf(t, one, p.Key))
			}
		}
	}
}

// What a dictionary proves is read by whoever knows its root alone, behind each of its writes; and of its versions.
func TestProofsOfADictionary(t *testing.T) {
	d, e := dict.New(20000)
	if e != api.OK {
		t.Fatal(e)
	}
	c := chance(5)
	keys := append(c.drawn(20), keyZ, keyO, keyX, keyY, keyN)
	maps, names := map[string]plain{}, []string{""}
	for i := range 60 {
		k := keys[c.below(len(keys))]
		m := slices.DeleteFunc(slices.Clone(maps[""]), func(e entry) bool { return e.key == k })
		if c.below(3) == 0 {
			d.Delete(k[:])
		} else if value := some(c.below(60)); d.Put(k[:], value) == api.OK {
			m = append(m, entry{k, digits(k), value})
		}
		maps[""] = m
		if name := fmt.Sprint("v", i); i%10 == 9 && d.Snapshot(name) == api.OK {
			maps[name], names = m, append(names, name)
		}
		for _, name := range names {
			if i%10 < 9 && name != "" {
				continue
			}
			root, _ := d.Root(name)
			for _, key := range keys {
				p, _ := proof.Prove(d, name, key[:])
				b, _ := pack.Encode(p)
				wayHolds(t, fmt.Sprint("behind the write ", i, ", ", name), root, maps[name], key, b)
			}
		}
	}
}

// A key's bytes say of another one what is there, or they are not accepted: none says of a key that is there that it is absent, nor the other way round.
func TestNoWayLies(t *testing.T) {
	c := chance(11)
	l := pairs(c.drawn(30)...)
	m, root := plainOf(l), rootOf(t, l)
	asked := append(c.drawn(20), keyZ, keyN)
	for _, p := range l {
		asked = append(asked, p.Key)
	}
	accepted := 0
	for _, way := range asked {
		b := m.way(way)
		for _, key := range asked {
			said, e := verify.Read(root, key, b)
			value, ok := m.find(key)
			if e == api.OK && (said.There != ok || ok && said.Value != valueOf(value)) || e != api.OK && e != api.ErrFalse {
				t.Fatalf("the way of %x, asked %x: Read = %v, %d", way, key, said, e)
			}
			if e == api.OK {
				accepted++
			}
		}
	}
	if accepted < len(asked) {
		t.Errorf("%d of %d are accepted", accepted, len(asked))
	}
}
