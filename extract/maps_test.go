package extract_test

import (
	"fmt"
	"slices"
	"testing"

	"rootcellar/api"
	"rootcellar/dict"
	"rootcellar/extract"
	"rootcellar/pack"
	"rootcellar/proof"
	"rootcellar/sha"
)

// entry is an entry of a map, its key's bits beside it.
type entry struct {
	key   api.Path
	bits  string
	value []byte
}

// plain is a map by definition: what stands in it is told by the document's words alone.
type plain []entry

func plainOf(l []api.Pair) plain {
	var m plain
	for _, p := range l {
		m = append(m, entry{p.Key, digits(p.Key), p.Value})
	}
	return m
}

// parted tells the entries whose bit at a depth is 0, and the others.
func (m plain) parted(d int) (left, right plain) {
	for _, e := range m {
		if e.bits[d] == '0' {
			left = append(left, e)
		} else {
			right = append(right, e)
		}
	}
	return left, right
}

// textAt tells the text of the root at a depth.
func (m plain) textAt(d int) []byte {
	switch len(m) {
	case 0:
		return []byte{0}
	case 1:
		return leafText(m[0].key, valueOf(m[0].value))
	}
	left, right := m.parted(d)
	return innerText(sha.Sum(left.textAt(d+1)), sha.Sum(right.textAt(d+1)))
}

// texts tells the texts of the nodes that a key's way goes by, and of what it ends with: as the map has them, not as a proof does.
func (m plain) texts(key api.Path) [][]byte { return m.textsFrom(0, digits(key)) }

func (m plain) textsFrom(d int, bits string) [][]byte {
	if len(m) < 2 {
		return [][]byte{m.textAt(d)}
	}
	left, right := m.parted(d)
	if bits[d] == '0' {
		below := left.textsFrom(d+1, bits)
		return append([][]byte{innerText(sha.Sum(below[0]), sha.Sum(right.textAt(d+1)))}, below...)
	}
	below := right.textsFrom(d+1, bits)
	return append([][]byte{innerText(sha.Sum(left.textAt(d+1)), sha.Sum(below[0]))}, below...)
}

// claim tells what holds of a key, with the bytes of its way.
func (m plain) claim(key api.Path, b []byte) api.Claim {
	i := slices.IndexFunc(m, func(e entry) bool { return e.key == key })
	if i < 0 {
		return api.Claim{Bytes: b}
	}
	return api.Claim{There: true, Value: m[i].value, Bytes: b}
}

// pairs tells entries of keys, each with a value of its own: some are empty, some alike, one is as long as may be.
func pairs(keys ...api.Path) []api.Pair {
	l := make([]api.Pair, len(keys))
	for i, k := range keys {
		l[i] = api.Pair{Key: k, Value: some(i * 5 % 37)}
		if i%50 == 3 {
			l[i].Value = longest
		}
	}
	return l
}

// drawn tells keys that have many first bits in common, or few.
func (c *chance) drawn(n int) []api.Path {
	seen := map[api.Path]bool{}
	var l []api.Path
	for len(l) < n {
		k := scattered(c.below(10000))
		if len(l) > 0 && c.below(3) > 0 {
			k = flip(l[c.below(len(l))], c.below(256))
		}
		if !seen[k] {
			seen[k] = true
			l = append(l, k)
		}
	}
	return l
}

// wayHolds sees that the texts of a key's way are those of the map's nodes, and that what holds of the key clashes with nothing that is said of it.
func wayHolds(t testing.TB, when string, root api.Hash, m plain, key api.Path, b []byte) {
	t.Helper()
	texts(t, when, key, b, m.texts(key))
	chained(t, when, key, b)
	r := right{root, key, m.claim(key, b)}
	accepted(t, when, r, true)
	noClash(t, when, root, key, r.claim, r.claim)
	for how, c := range wrongs(t, r) {
		noClash(t, when+", "+how, root, key, r.claim, c)
	}
}

// Maps of none, one and two entries: all keys of theirs, and such that part from them anywhere.
func TestSmallMaps(t *testing.T) {
	for _, key := range []api.Path{keyZ, keyO, keyX, keyY, keyN} {
		wayHolds(t, "no entry", empty, nil, key, []byte{0, 0, 0})
	}
	for d := range 256 {
		a := scattered(d)
		b := api.Path(flip(a, d))
		l := pairs(a, b)
		if d%16 > 1 {
			l = l[:1]
		}
		m, root := plainOf(l), rootOf(t, l)
		for _, key := range []api.Path{a, b, flip(a, d/2), flip(b, 255)} {
			wayHolds(t, fmt.Sprint("few entries, ", d), root, m, key, wayOf(t, l, key))
		}
	}
}

// A ladder: 257 keys, each of which parts from the way of noughts one bit deeper.
func TestLadder(t *testing.T) {
	keys := []api.Path{keyZ}
	for d := range 256 {
		keys = append(keys, flip(keyZ, d))
	}
	l := pairs(keys...)
	m, root := plainOf(l), rootOf(t, l)
	for i, key := range keys {
		if i%50 > 1 && i != 256 {
			continue
		}
		b := wayOf(t, l, key)
		texts(t, "the ladder", key, b, m.texts(key))
		chained(t, "the ladder", key, b)
		accepted(t, "the ladder", right{root, key, m.claim(key, b)}, true)
	}
}

// Drawn entries and keys, of which some are there and some are not: texts that are the map's; of two maps that are unlike in a few entries the ways of a key part, at the top, just if any entry is another; of claims out of both no two are accepted under one root.
func TestDrawnMaps(t *testing.T) {
	if testing.Short() {
		t.Skip("takes some seconds")
	}
	c := chance(19)
	for i := range 12 {
		l := pairs(c.drawn(1 + c.below(20))...)
		at := c.below(len(l))
		less, other := slices.Delete(slices.Clone(l), at, at+1), slices.Clone(l)
		other[at].Value = append(slices.Clone(other[at].Value[:min(1000, len(other[at].Value))]), 1)
		m, root := plainOf(l), rootOf(t, l)
		keys := c.drawn(5)
		for _, p := range l {
			keys = append(keys, p.Key, flip(p.Key, c.below(256)))
		}
		for _, key := range keys {
			when, b := fmt.Sprint("the map ", i, " of ", len(l)), wayOf(t, l, key)
			wayHolds(t, when, root, m, key, b)
			for _, also := range [][]api.Pair{less, other} {
				q, n := wayOf(t, also, key), plainOf(also)
				want := api.Clash{One: m.textAt(0), Two: n.textAt(0)}
				parts(t, when+", beside another", key, b, q, want, 0)
				noClash(t, when+", beside another", root, key, m.claim(key, b), n.claim(key, q))
				noClash(t, when+", beside another", rootOf(t, also), key, m.claim(key, b), n.claim(key, q))
			}
		}
	}
}

// A key's bytes, asked for another key: the texts are those of the words; where they are accepted, they say what is there, and clash with nothing.
func TestWaysOfOthers(t *testing.T) {
	c := chance(11)
	l := pairs(c.drawn(20)...)
	m, root := plainOf(l), rootOf(t, l)
	asked := append(c.drawn(8), keyZ, keyN)
	for _, p := range l {
		asked = append(asked, p.Key)
	}
	for _, way := range asked {
		b := wayOf(t, l, way)
		for _, key := range asked {
			own := wayOf(t, l, key)
			byWords(t, "another one's way", key, b)
			partsByWords(t, "another one's way", key, b, own)
			for _, claim := range []api.Claim{{Bytes: b}, {There: true, Bytes: b}, {There: true, Value: m.claim(way, b).Value, Bytes: b}} {
				noClash(t, "another one's way", root, key, claim, m.claim(key, own))
			}
		}
	}
}

// What a dictionary proves, behind each of its writes and of its versions: the texts are its nodes', and no two claims clash.
func TestProofsOfADictionary(t *testing.T) {
	d, e := dict.New(20000)
	if e != api.OK {
		t.Fatal(e)
	}
	c := chance(5)
	keys := append(c.drawn(10), keyZ, keyO, keyY, keyN)
	var m plain
	before := map[api.Path]api.Claim{}
	for i := range 40 {
		k := keys[c.below(len(keys))]
		m = slices.DeleteFunc(slices.Clone(m), func(e entry) bool { return e.key == k })
		if c.below(3) == 0 {
			d.Delete(k[:])
		} else if value := some(c.below(60)); d.Put(k[:], value) == api.OK {
			m = append(m, entry{k, digits(k), value})
		}
		root, _ := d.Root("")
		for _, key := range keys {
			p, _ := proof.Prove(d, "", key[:])
			b, _ := pack.Encode(p)
			texts(t, fmt.Sprint("behind the write ", i), key, b, m.texts(key))
			claim := m.claim(key, b)
			noClash(t, fmt.Sprint("behind the write ", i), root, key, claim, before[key])
			if at, e := extractedAt(key, b, before[key].Bytes); e == api.OK && at > 0 {
				t.Fatalf("behind the write %d: the proofs of %x part at %d", i, key, at)
			}
			before[key] = claim
		}
	}
}

// extractedAt tells at which depth two proofs part.
func extractedAt(key api.Path, p, q []byte) (int, api.Errno) {
	_, d, e := extract.Part(key, p, q)
	return d, e
}
