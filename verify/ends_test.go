package verify_test

import (
	"fmt"
	"testing"

	"rootcellar/api"
	"rootcellar/verify"
)

// patterns are lists of n sides: of unlike digests, all empty, some empty, of noughts, all alike.
func patterns(n int) map[string][]api.Hash {
	alike := make([]api.Hash, n)
	for i := range alike {
		alike[i] = digest(1)
	}
	return map[string][]api.Hash{
		"none empty": sides(n),
		"all empty":  empties(n),
		"mixed":      mixed(n),
		"noughts":    make([]api.Hash, n),
		"alike":      alike,
	}
}

// topOf tells the root under which a proof's bytes may be accepted, and these.
func topOf(key api.Path, l []api.Hash, end api.Node) (api.Hash, []byte) {
	return up(key, api.Proof{Sides: l, End: end}), packed(l, end)
}

// The empty node ends any way: with each number of sides the key is absent.
func TestEndsWithNothing(t *testing.T) {
	for _, n := range numbers {
		for pattern, l := range patterns(n) {
			for _, key := range []api.Path{keyZ, keyO, keyY, keyN, scattered(1)} {
				when := fmt.Sprint(n, " sides, ", pattern, ", nothing")
				root, b := topOf(key, l, api.Node{})
				absent(t, when, root, key, b)
				nowhereElse(t, when, root, key, b)
			}
		}
	}
}

// The key's own leaf ends any way: with each number of sides the key is there, with the digest that the leaf has, be it what it may.
func TestEndsWithItsLeaf(t *testing.T) {
	for _, n := range numbers {
		for pattern, l := range patterns(n) {
			for _, key := range []api.Path{keyZ, keyO, keyY, keyN, scattered(1)} {
				when := fmt.Sprint(n, " sides, ", pattern, ", the key's leaf")
				root, b := topOf(key, l, leaf(key, valueOf([]byte("A"))))
				there(t, when, root, key, []byte("A"), b)
				nowhereElse(t, when, root, key, b)
			}
		}
	}
	for when, value := range map[string]api.Hash{"noughts": {}, "E": empty, "full": api.Hash(keyN), "the key": api.Hash(keyY), "no known value's": digest(1)} {
		for _, key := range []api.Path{keyZ, keyY, keyN} {
			root, b := topOf(key, mixed(5), leaf(key, value))
			reads(t, when, root, key, b, api.Said{There: true, Value: value}, api.OK)
		}
	}
}

// Another key's leaf ends the way of a key, just if that key has its first bits, as many as there are sides; Top answers all the same. At each number of sides: keys that part at the last one, directly behind it, and elsewhere.
func TestEndsWithAnotherLeaf(t *testing.T) {
	for n := range 257 {
		key := scattered(n)
		for _, d := range []int{0, n / 2, n - 1, n, n + 1, 255} {
			if d < 0 || d > 255 {
				continue
			}
			other := api.Path(flip(key, d))
			l := [][]api.Hash{sides(n), empties(n), mixed(n)}[n%3]
			root, b := topOf(key, l, leaf(other, valueOf([]byte("A"))))
			when := fmt.Sprint(n, " sides, the leaf of a key that parts at ", d)
			if d < n {
				untrue(t, when, root, key, b)
				tops(t, when, key, b, root, api.OK)
			} else {
				absent(t, when, root, key, b)
				there(t, when+", asked that", root, other, []byte("A"), b)
			}
			if n%16 == 0 {
				nowhereElse(t, when, root, key, b)
			}
		}
	}
}

// Keys that part more than once: the first bit in which they are unlike counts, and not how many are.
func TestPartsMoreThanOnce(t *testing.T) {
	for _, n := range []int{1, 2, 8, 9, 100, 255, 256} {
		for i := range 20 {
			key, other := scattered(i), scattered(1000+i)
			for d := range min(n, i) { // the same first bits, up to those ahead of the i-th
				if digits(key)[d] != digits(other)[d] {
					other = flip(other, d)
				}
			}
			root, b := topOf(key, sides(n), leaf(other, valueOf(nil)))
			byWords(t, "keys that part more than once", root, key, b)
			all := key
			for d := n; d < 256; d++ {
				all = flip(all, d)
			}
			root, b = topOf(key, sides(n), leaf(all, valueOf(nil)))
			if n == 256 {
				there(t, "the key itself", root, key, nil, b)
			} else {
				absent(t, "all bits behind the sides turned", root, key, b)
			}
			all = flip(all, n-1)
			root, b = topOf(key, sides(n), leaf(all, valueOf(nil)))
			untrue(t, "the last side's bit turned, too", root, key, b)
		}
	}
}

// With 256 sides no other key has all the bits: nothing but the key's own leaf and the empty node may stand there.
func TestDeepest(t *testing.T) {
	for d := range 256 {
		key := scattered(d)
		root, b := topOf(key, sides(256), leaf(flip(key, d), valueOf(nil)))
		untrue(t, fmt.Sprint("parts at ", d), root, key, b)
		tops(t, fmt.Sprint("parts at ", d), key, b, root, api.OK)
	}
	root, b := topOf(keyN, sides(256), leaf(keyN, valueOf(nil)))
	there(t, "the last key", root, keyN, nil, b)
	root, b = topOf(keyN, sides(256), api.Node{})
	absent(t, "the last key", root, keyN, b)
}

// Without a side each leaf ends each key's way: a map of one entry.
func TestNoSide(t *testing.T) {
	for i, other := range []api.Path{keyZ, keyO, keyX, keyY, keyN, scattered(1)} {
		root, b := topOf(other, nil, leaf(other, valueOf([]byte("A"))))
		for j, key := range []api.Path{keyZ, keyO, keyX, keyY, keyN, scattered(1)} {
			if i == j {
				there(t, "one entry", root, key, []byte("A"), b)
			} else {
				absent(t, "one entry", root, key, b)
			}
			nowhereElse(t, "one entry", root, key, b)
			absent(t, "no entry", empty, key, []byte{0, 0, 0})
			nowhereElse(t, "no entry", empty, key, []byte{0, 0, 0}, root)
		}
	}
}

// The key of noughts is absent where its way ends with nothing: the empty node, whose key is noughts, is not its leaf.
func TestKeyOfNoughts(t *testing.T) {
	for _, n := range numbers {
		for pattern, l := range patterns(n) {
			when := fmt.Sprint(n, " sides, ", pattern)
			root, b := topOf(keyZ, l, api.Node{})
			absent(t, when, root, keyZ, b)
			root, b = topOf(keyZ, l, leaf(keyZ, api.Hash{}))
			reads(t, when, root, keyZ, b, api.Said{There: true}, api.OK)
		}
	}
}

// Bytes lead up by the bits of the key that is asked: with another key to another digest, if a bit at one of the sides is unlike, else to the same one.
func TestUpByTheKeysBits(t *testing.T) {
	for _, n := range []int{1, 2, 7, 8, 9, 60, 256} {
		key := scattered(n)
		for when, end := range map[string]api.Node{"nothing": {}, "its leaf": leaf(key, valueOf(nil)), "another leaf": leaf(flip(key, 255), valueOf(nil))} {
			root, b := topOf(key, sides(n), end)
			for d := range 256 {
				other := api.Path(flip(key, d))
				h, e := verify.Top(other, b)
				if (h == root) != (d >= n) || e != api.OK {
					t.Fatalf("%d sides, %s, with the bit %d turned: Top = %x, %d", n, when, d, h, e)
				}
				if d < n {
					untrue(t, when, root, other, b)
				}
				if n < 10 || d%32 == 0 {
					byWords(t, when, root, other, b)
				}
			}
		}
	}
}

// A side that is another one, or stands at another place, or is one more or less, leads to another root.
func TestOtherSides(t *testing.T) {
	for _, n := range []int{1, 2, 9, 256} {
		l, end := sides(n), leaf(keyX, valueOf([]byte("A")))
		root, b := topOf(keyX, l, end)
		there(t, "all sides", root, keyX, []byte("A"), b)
		untrue(t, "without the last", root, keyX, packed(l[:n-1], end))
		untrue(t, "without the first", root, keyX, packed(l[1:], end))
		if n < 256 {
			untrue(t, "one more behind", root, keyX, packed(append(sides(n), empty), end))
			untrue(t, "one more ahead", root, keyX, packed(append(empties(1), l...), end))
		}
		for i := 0; i < n; i += 1 + n/100 {
			other := sides(n)
			for _, h := range []api.Hash{empty, {}, flip(l[i], i), root} {
				other[i] = h
				untrue(t, fmt.Sprint("another side ", i), root, keyX, packed(other, end))
			}
			other = sides(n)
			j := (i + 1) % n
			if other[i], other[j] = other[j], other[i]; n > 1 {
				untrue(t, fmt.Sprint("the sides ", i, " and ", j, " changed over"), root, keyX, packed(other, end))
			}
		}
	}
}

// An end that is another one leads to another root: another value, another key, nothing instead of a leaf, a leaf instead of nothing.
func TestOtherEnds(t *testing.T) {
	for _, n := range []int{0, 1, 9, 256} {
		root, b := topOf(keyX, sides(n), leaf(keyX, valueOf([]byte("A"))))
		there(t, "its leaf", root, keyX, []byte("A"), b)
		for when, end := range map[string]api.Node{
			"another value":     leaf(keyX, valueOf([]byte("B"))),
			"no value's digest": leaf(keyX, api.Hash{}),
			"another key":       leaf(flip(keyX, 255), valueOf([]byte("A"))),
			"changed over":      leaf(api.Path(valueOf([]byte("A"))), api.Hash(keyX)),
			"nothing":           {},
		} {
			untrue(t, when, root, keyX, packed(sides(n), end))
		}
		root, b = topOf(keyX, sides(n), api.Node{})
		absent(t, "nothing", root, keyX, b)
		untrue(t, "a leaf instead of nothing", root, keyX, packed(sides(n), leaf(keyX, valueOf(nil))))
		untrue(t, "a leaf of noughts instead of nothing", root, keyX, packed(sides(n), api.Node{Kind: api.Leaf}))
	}
}
