package extract_test

import (
	"fmt"
	"slices"
	"testing"

	"rootcellar/api"
	"rootcellar/extract"
)

// partsByWords holds Part against the document's words.
func partsByWords(t testing.TB, when string, key api.Path, p, q []byte) {
	t.Helper()
	want, d, e := partByWords(key, p, q)
	if e != api.OK {
		refuses(t, when, key, p, q)
		refuses(t, when+", the other way round", key, q, p)
		return
	}
	parts(t, when, key, p, q, want, d)
}

// ends are some for a key: nothing, the key's leaf with either value, another key's.
func ends(key api.Path) []api.Node {
	return []api.Node{{}, leaf(key, valueOf(nil)), leaf(key, valueOf([]byte("A"))), leaf(flip(key, 255), valueOf(nil))}
}

// Proofs that are alike don't part, wherever their bytes lie.
func TestAlike(t *testing.T) {
	for _, n := range numbers {
		for pattern, l := range patterns(n) {
			for i, end := range ends(keyX) {
				b := packed(l, end)
				parts(t, fmt.Sprint(n, " sides, ", pattern, ", the end ", i), keyX, b, b, api.Clash{}, -1)
				parts(t, fmt.Sprint(n, " sides, ", pattern, ", the end ", i, ", in other memory"), scattered(i), b, slices.Clone(b), api.Clash{}, -1)
			}
		}
	}
}

// Proofs that are unlike in one side or in the end are so in the first text already: each text hangs on all that is below it. That text has the digest at the top, and so do they.
func TestPartAtTheTop(t *testing.T) {
	for _, n := range []int{1, 2, 3, 8, 9, 64, 255, 256} {
		key := scattered(n)
		p := packed(mixed(n), leaf(key, valueOf(nil)))
		for i := 0; i < n; i += 1 + n/20 {
			l := mixed(n)
			l[i] = digest(1000 + i)
			q := packed(l, leaf(key, valueOf(nil)))
			partsByWords(t, fmt.Sprint(n, " sides, ", i, " is another"), key, p, q)
			if _, d, _ := extract.Part(key, p, q); d != 0 {
				t.Fatalf("%d sides, %d is another: they part at %d", n, i, d)
			}
		}
		for i, end := range ends(key) {
			q := packed(mixed(n), end)
			partsByWords(t, fmt.Sprint(n, " sides, the end ", i), key, p, q)
			want := 0
			if i == 1 {
				want = -1
			}
			if _, d, _ := extract.Part(key, p, q); d != want {
				t.Fatalf("%d sides, the end %d: they part at %d, not %d", n, i, d, want)
			}
		}
	}
}

// Proofs without a side part in their ends, at 0.
func TestPartInTheEnds(t *testing.T) {
	for i, one := range ends(keyX) {
		for j, two := range ends(keyX) {
			p, q := packed(nil, one), packed(nil, two)
			partsByWords(t, fmt.Sprint("the ends ", i, " and ", j), keyX, p, q)
			if c, d, e := extract.Part(keyX, p, q); e != api.OK || (d == -1) != (i == j) || i != j && (d != 0 || !slices.Equal(c.One, p[2:]) || !slices.Equal(c.Two, q[2:])) {
				t.Errorf("the ends %d and %d: Part = %x, %x at %d, %d", i, j, c.One, c.Two, d, e)
			}
		}
	}
}

// Of proofs of which one has more sides than the other: none has all texts of the other one.
func TestMoreSides(t *testing.T) {
	key := scattered(7)
	for _, n := range numbers {
		for _, m := range []int{0, 1, 2, 9, 100, 255, 256} {
			for i, end := range ends(key) {
				p, q := packed(mixed(n), end), packed(mixed(m), ends(key)[(i+n)%4])
				partsByWords(t, fmt.Sprint(n, " sides and ", m, ", the end ", i), key, p, q)
			}
		}
	}
}

// Where proofs are unlike in one side alone, or in the end, the texts there and above are unlike, and those below are the same: by real digests they part at the top, as far down as the side may stand. Proofs that part further down have texts that clash: see clashes_test.go.
func TestUnlikeInOnePlace(t *testing.T) {
	key := scattered(9)
	p := packed(mixed(12), leaf(key, valueOf(nil)))
	for d := range 13 {
		l, end := mixed(12), leaf(key, valueOf(nil))
		if d < 12 {
			l[d] = digest(500)
		} else {
			end = api.Node{}
		}
		q := packed(l, end)
		partsByWords(t, fmt.Sprint("unlike at ", d), key, p, q)
		one, _ := extract.Texts(key, p)
		two, _ := extract.Texts(key, q)
		for i := range one {
			if slices.Equal(one[i], two[i]) != (i > d) {
				t.Errorf("unlike at %d alone: the texts at %d are %x and %x", d, i, one[i], two[i])
			}
		}
	}
}

// The key that is told counts, not the one in the end: asked another one, both proofs are read by its bits.
func TestPartOfOtherKeys(t *testing.T) {
	p, q := packed(mixed(9), leaf(keyX, valueOf(nil))), packed(sides(9), leaf(keyX, valueOf(nil)))
	for d := range 256 {
		partsByWords(t, "other keys", flip(keyX, d), p, q)
		parts(t, "other keys", flip(keyX, d), p, p, api.Clash{}, -1)
	}
	// Sides that are the other way round for a key and the one beside it: each has one text, and they are unlike.
	v := valueOf(nil)
	z, y := leafOf(keyZ, v), leafOf(keyY, v)
	ofZ, ofY := packed([]api.Hash{y}, leaf(keyZ, v)), packed([]api.Hash{z}, leaf(keyY, v))
	parts(t, "the ways of Z and Y, asked Z", keyZ, ofZ, ofY, api.Clash{One: innerText(z, y), Two: innerText(y, z)}, 0)
	parts(t, "the ways of Z and Y, asked Y", keyY, ofZ, ofY, api.Clash{One: innerText(y, z), Two: innerText(z, y)}, 0)
}

// Refused bytes: in the first place, in the second, in both, beside right ones of each kind; nothing else is told, not even where the others would part.
func TestPartRefuses(t *testing.T) {
	wrong := [][]byte{nil, {}, {0}, {0, 0}, {0, 0, 3}, {0, 0, 0, 0}, {1, 1}, packed(empties(257), api.Node{}), slices.Concat([]byte{0, 0}, innerText(empty, empty))}
	for _, n := range []int{0, 1, 9, 256} {
		for _, end := range ends(keyX) {
			right := packed(mixed(n), end)
			for _, b := range append(wrong, right[:len(right)-1], append(slices.Clone(right), 0)) {
				refuses(t, "ahead", keyX, b, right)
				refuses(t, "behind", keyX, right, b)
				for _, other := range wrong {
					refuses(t, "both", keyX, b, other)
				}
			}
		}
	}
}
