package extract_test

import (
	"fmt"
	"slices"
	"testing"

	"rootcellar/api"
	"rootcellar/extract"
)

// patterns are lists of n sides: of unlike digests, all empty, some empty, of noughts, all alike.
func patterns(n int) map[string][]api.Hash {
	return map[string][]api.Hash{
		"none empty": sides(n),
		"all empty":  empties(n),
		"mixed":      mixed(n),
		"noughts":    make([]api.Hash, n),
		"alike":      slices.Repeat([]api.Hash{digest(1)}, n),
	}
}

// byWords holds Texts of any bytes against the document's words, and each text against the one ahead of it.
func byWords(t testing.TB, when string, key api.Path, b []byte) {
	t.Helper()
	want, e := textsByWords(key, b)
	if e != api.OK {
		unread(t, when, b)
		return
	}
	texts(t, when, key, b, want)
	chained(t, when, key, b)
	parts(t, when, key, b, b, api.Clash{}, -1)
}

// Each number of sides, with each kind of end: nothing, the key's own leaf, another one's that is on the way, and one that is not.
func TestEachEnd(t *testing.T) {
	for _, n := range numbers {
		for pattern, l := range patterns(n) {
			for i, key := range []api.Path{keyZ, keyO, keyN, scattered(n)} {
				last := min(n, 255)
				for end, node := range map[string]api.Node{
					"nothing":          {},
					"its leaf":         leaf(key, valueOf([]byte("A"))),
					"a leaf on it":     leaf(flip(key, last), valueOf(nil)),
					"a leaf beside it": leaf(flip(key, last/2), digest(i)),
				} {
					byWords(t, fmt.Sprint(n, " sides, ", pattern, ", ", end), key, packed(l, node))
				}
			}
		}
	}
}

// With no side there is one text, the end's, whatever key is told, its own or not.
func TestNoSide(t *testing.T) {
	keys := []api.Path{keyZ, keyO, keyX, keyY, keyN, scattered(1)}
	for _, key := range keys {
		texts(t, "nothing", key, []byte{0, 0, 0}, [][]byte{{0}})
		for _, other := range keys {
			for _, value := range []api.Hash{{}, empty, valueOf(nil), digest(1)} {
				texts(t, "a leaf", key, packed(nil, leaf(other, value)), [][]byte{leafText(other, value)})
			}
		}
	}
}

// The end's text stands last, as it is, whether its key has the bits of the key that is asked or not.
func TestEndNeedNotBeOnTheWay(t *testing.T) {
	for _, n := range []int{1, 2, 8, 9, 100, 256} {
		for d := range 256 {
			key := scattered(d)
			b := packed(mixed(n), leaf(flip(key, d), valueOf(nil)))
			l, e := extract.Texts(key, b)
			if e != api.OK || len(l) != n+1 || !slices.Equal(l[n], leafText(flip(key, d), valueOf(nil))) {
				t.Fatalf("%d sides, the leaf of a key that parts at %d: Texts = %d texts, %d", n, d, len(l), e)
			}
			if d%16 == 7 {
				byWords(t, fmt.Sprint(n, " sides, the leaf of a key that parts at ", d), key, b)
			}
		}
	}
}

// Each digest stands in its place: with a bit of the key turned, at a depth where there is a side, the two of that depth are the other way round there, and all above it are others; all below are the same. With one turned below the sides all are.
func TestPlaces(t *testing.T) {
	for _, n := range []int{1, 2, 7, 8, 9, 60, 256} {
		key := scattered(n)
		b := packed(mixed(n), leaf(key, valueOf([]byte("A"))))
		want, _ := textsByWords(key, b)
		for d := range 256 {
			other := api.Path(flip(key, d))
			l, e := extract.Texts(other, b)
			if e != api.OK || len(l) != n+1 {
				t.Fatalf("%d sides, the bit %d turned: Texts = %d texts, %d", n, d, len(l), e)
			}
			for i, text := range l {
				equal := slices.Equal(text, want[i])
				if equal != (i > d || d >= n) {
					t.Fatalf("%d sides, the bit %d turned: the text at %d is %x, of the other one %x", n, d, i, text, want[i])
				}
				if i == d && d < n && !slices.Equal(text, slices.Concat([]byte{2}, want[i][33:], want[i][1:33])) {
					t.Fatalf("%d sides, the bit %d turned: the text there is %x, not %x turned round", n, d, text, want[i])
				}
			}
		}
	}
}

// Nothing, each beginning of right bytes, and right bytes with more behind or ahead of them are refused.
func TestCutOffAndGoingOn(t *testing.T) {
	unread(t, "nothing", nil)
	unread(t, "no bytes", []byte{})
	for _, n := range []int{0, 1, 2, 7, 8, 9, 17, 256} {
		for end, node := range map[string]api.Node{"nothing": {}, "a leaf": leaf(keyX, valueOf(nil))} {
			for pattern, l := range patterns(n) {
				b, step := packed(l, node), 1
				if len(b) > 1000 {
					step = 61
				}
				when := fmt.Sprint(n, " sides, ", pattern, ", ", end)
				for cut := 0; cut < len(b); cut += step {
					unread(t, fmt.Sprint(when, ", cut off at ", cut), b[:cut])
				}
				unread(t, when+", without the last", b[:len(b)-1])
				for _, more := range [][]byte{{0}, {1}, {255}, make([]byte, 32), make([]byte, 65), b} {
					unread(t, fmt.Sprint(when, ", ", len(more), " more"), slices.Concat(b, more))
				}
				unread(t, when+", one more ahead", slices.Concat([]byte{0}, b))
			}
		}
	}
}

// Other bytes that pack.Decode refuses: too many sides, loose bits, an empty side that is written, an end that is an inner node or none at all.
func TestRefusedBytes(t *testing.T) {
	inner := innerText(digest(1), digest(2))
	for when, b := range map[string][]byte{
		"one byte":                     {0},
		"no end":                       {0, 0},
		"an end of the kind 3":         {0, 0, 3},
		"an end of the kind 255":       {0, 0, 255},
		"an inner node":                slices.Concat([]byte{0, 0}, inner),
		"an inner node below a side":   slices.Concat([]byte{0, 1, 0}, inner),
		"a bit behind no side":         {0, 0, 128, 0},
		"a bit behind the last side's": {0, 1, 64, 0},
		"an empty side that is there":  slices.Concat([]byte{0, 1, 128}, empty[:], []byte{0}),
		"257 empty sides":              packed(empties(257), api.Node{}),
		"257 sides":                    packed(sides(257), leaf(keyZ, valueOf(nil))),
		"65,535 empty sides":           packed(empties(65535), api.Node{}),
		"many bytes":                   make([]byte, 1<<20),
		"many full ones":               slices.Repeat([]byte{255}, 1<<20),
	} {
		unread(t, when, b)
	}
}

// Bytes of right ones with bytes left out, doubled, or put elsewhere, and with bits turned: what the words say of them.
func TestPieces(t *testing.T) {
	c := chance(3)
	all := [][]byte{packed(nil, api.Node{}), packed(nil, leaf(keyX, valueOf(nil))), packed(sides(1), leaf(keyY, valueOf(nil))), packed(empties(2), api.Node{}), packed(mixed(9), leaf(scattered(1), digest(1))), packed(sides(8), api.Node{})}
	for range 2000 {
		a, b := all[c.below(len(all))], all[c.below(len(all))]
		b = slices.Concat(a[:c.below(len(a)+1)], b[c.below(len(b)+1):])
		byWords(t, "pieces", scattered(c.below(5)), b)
		b = slices.Clone(a)
		b[c.below(len(b))] ^= 1 << c.below(8)
		byWords(t, "a bit turned", scattered(c.below(5)), b)
	}
}
