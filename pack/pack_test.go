package pack_test

import (
	"bytes"
	"fmt"
	"slices"
	"strings"
	"testing"

	"rootcellar/api"
	"rootcellar/octet"
	"rootcellar/pack"
	"rootcellar/sha"
	"rootcellar/tag"
)

// The examples of the chapter.
func TestExamples(t *testing.T) {
	s, e := digest(1), empty
	b := may(t, "no sides, nothing", api.Proof{})
	if !bytes.Equal(b, []byte{0, 0, 0}) {
		t.Errorf("Encode of no sides = %x", b)
	}
	p := api.Proof{Sides: []api.Hash{e, s}}
	b = may(t, "E, S", p)
	if !bytes.Equal(b, slices.Concat([]byte{0, 2, 64}, s[:], []byte{0})) || len(b) != 36 {
		t.Errorf("Encode of E, S = %x", b)
	}
	if n, e := pack.Size(p); n != 36 || e != api.OK {
		t.Errorf("Size of E, S = %d, %d", n, e)
	}
	read(t, "no sides, nothing", []byte{0, 0, 0}, api.Proof{})
	for when, b := range map[string][]byte{
		"nothing":                     nil,
		"no bytes":                    {},
		"a byte behind the end":       {0, 0, 0, 0},
		"an inner node":               append([]byte{0, 0, 2}, make([]byte, 64)...),
		"a bit behind the last side":  slices.Concat([]byte{0, 2, 65}, s[:], []byte{0}),
		"the empty digest is written": slices.Concat([]byte{0, 1, 128}, e[:], []byte{0}),
	} {
		unread(t, when, b)
	}
	mayNot(t, "257 sides", api.Proof{Sides: sides(257)}, api.ErrLong)
	mayNot(t, "an inner node", api.Proof{End: inner(s, e)}, api.ErrArg)
}

// Example 5 of the whole: the bytes of Y's proof among Z and Y, and of O's among Z and O.
func TestExampleFive(t *testing.T) {
	v := tag.Value(nil)
	z := tag.Leaf(keyZ, v)
	b := may(t, "Y", api.Proof{Sides: []api.Hash{z}, End: leaf(keyY, v)})
	if !bytes.Equal(b, slices.Concat([]byte{0, 1, 128}, z[:], []byte{1}, keyY[:], v[:])) || len(b) != 100 {
		t.Errorf("Encode of Y's proof = %x", b)
	}
	b = may(t, "O", api.Proof{Sides: append(empties(255), z), End: leaf(keyO, v)})
	if !bytes.Equal(b, slices.Concat([]byte{1, 0}, make([]byte, 31), []byte{1}, z[:], []byte{1}, keyO[:], v[:])) || len(b) != 2+32+32+65 {
		t.Errorf("Encode of O's proof = %x", b)
	}
}

// Bytes that were put together by another program, told by their digest.
func TestBytesToldElsewhere(t *testing.T) {
	for _, c := range []struct {
		n    int
		end  api.Node
		size int
		want string
	}{
		{0, leaf(keyY, tag.Value(nil)), 67, "eef3de65d31cfbf7ceaf5d4bdd379671cc0720f75f529ed0b9ada24569b601d6"},
		{1, api.Node{}, 4, "bf5e8ffa51a9e748985800c1d3d7f1a2a6ae7435136593ca8d9637e3f87c699c"},
		{13, leaf(keyX, tag.Value([]byte("A"))), 325, "a64837b9f15a9244b7a12e9ad7d1c0cd21005d29045f1c3ca2a3b3a2d80625d3"},
		{256, api.Node{}, 5475, "f236dc050114b999863719ac1280006eca249e9ad7cbc681db7f9d63937cb684"},
	} {
		var p api.Proof
		for i := range c.n {
			if i%3 == 0 {
				p.Sides = append(p.Sides, empty)
			} else {
				p.Sides = append(p.Sides, sha.Sum([]byte{byte(i)}))
			}
		}
		p.End = c.end
		b := encoded(t, "told elsewhere", p)
		if sum := sha.Sum(b); len(b) != c.size || octet.Hex(sum[:]) != c.want {
			t.Errorf("Encode of %d sides = %d bytes with the digest %x", c.n, len(b), sum)
		}
	}
}

// Each number of sides that may be, with each end.
func TestEachNumberOfSides(t *testing.T) {
	for n := range 257 {
		may(t, fmt.Sprint(n, " sides"), api.Proof{Sides: sides(n)})
		may(t, fmt.Sprint(n, " empty sides"), api.Proof{Sides: empties(n), End: leaf(keyY, digest(1))})
	}
	for _, n := range numbers {
		for pattern, l := range patterns(n) {
			for when, end := range goodEnds() {
				may(t, fmt.Sprint(n, " sides, ", pattern, ", and ", when), api.Proof{Sides: l, End: end})
			}
		}
	}
}

// One side alone is empty, or one alone is not: each of them.
func TestEachSingleSide(t *testing.T) {
	for _, n := range []int{1, 2, 7, 8, 9, 16, 255, 256} {
		for i := range n {
			one, others := empties(n), sides(n)
			one[i], others[i] = digest(i), empty
			b := may(t, fmt.Sprint("the side ", i, " of ", n, " alone"), api.Proof{Sides: one})
			if len(b) != 2+(n+7)/8+32+1 || b[2+i/8] != 128>>(i%8) {
				t.Errorf("the side %d of %d alone: %x", i, n, b)
			}
			b = may(t, fmt.Sprint("all sides of ", n, " but ", i), api.Proof{Sides: others, End: leaf(keyY, digest(1))})
			if len(b) != 2+(n+7)/8+32*(n-1)+65 || b[2+i/8]&(128>>(i%8)) != 0 {
				t.Errorf("all sides of %d but %d: %s", n, i, brief(b))
			}
		}
	}
}

// Just the empty digest is left out: what is unlike it in one bit alone is written, and so are noughts.
func TestAlmostEmptySides(t *testing.T) {
	for d := range 256 {
		near := api.Hash(flip(empty, d))
		b := may(t, "almost empty", api.Proof{Sides: []api.Hash{near, empty, near}})
		if !bytes.Equal(b, slices.Concat([]byte{0, 3, 160}, near[:], near[:], []byte{0})) {
			t.Fatalf("E with the bit %d turned: %x", d, b)
		}
	}
	b := may(t, "noughts", api.Proof{Sides: make([]api.Hash, 1)})
	if !bytes.Equal(b, append([]byte{0, 1, 128}, make([]byte, 33)...)) {
		t.Errorf("a side of noughts: %x", b)
	}
}

// Sides stand in their order, a like one twice as well.
func TestOrderOfSides(t *testing.T) {
	a, b, e := digest(1), digest(2), empty
	for _, c := range []struct {
		l    []api.Hash
		want []byte
	}{
		{[]api.Hash{a, b}, slices.Concat([]byte{0, 2, 192}, a[:], b[:], []byte{0})},
		{[]api.Hash{b, a}, slices.Concat([]byte{0, 2, 192}, b[:], a[:], []byte{0})},
		{[]api.Hash{a, a}, slices.Concat([]byte{0, 2, 192}, a[:], a[:], []byte{0})},
		{[]api.Hash{a, e, e, e, e, e, e, e, b}, slices.Concat([]byte{0, 9, 128, 128}, a[:], b[:], []byte{0})},
		{[]api.Hash{e, e, e, e, e, e, e, b, a}, slices.Concat([]byte{0, 9, 1, 128}, b[:], a[:], []byte{0})},
		{[]api.Hash{e, e, e, e, e, e, e, e, e}, []byte{0, 9, 0, 0, 0}},
	} {
		if got := may(t, "in order", api.Proof{Sides: c.l}); !bytes.Equal(got, c.want) {
			t.Errorf("Encode of %x = %x, not %x", c.l, got, c.want)
		}
	}
}

// Too many sides are told ahead of an end that may not be.
func TestRefuses(t *testing.T) {
	for when, end := range badEnds() {
		for _, n := range []int{0, 1, 7, 8, 9, 255, 256} {
			mayNot(t, when, api.Proof{Sides: sides(n), End: end}, api.ErrArg)
			mayNot(t, when, api.Proof{Sides: empties(n), End: end}, api.ErrArg)
		}
		for _, n := range []int{257, 258} {
			mayNot(t, when, api.Proof{Sides: sides(n), End: end}, api.ErrLong)
			mayNot(t, when, api.Proof{Sides: empties(n), End: end}, api.ErrLong)
		}
	}
	for when, end := range goodEnds() {
		for _, n := range []int{257, 258, 263, 264, 265, 511, 512, 513, 65535, 65536, 65537, 65792} {
			mayNot(t, when, api.Proof{Sides: make([]api.Hash, n), End: end}, api.ErrLong)
			mayNot(t, when, api.Proof{Sides: empties(n), End: end}, api.ErrLong)
		}
	}
}

// No list and an empty one are the same.
func TestNoSides(t *testing.T) {
	for when, end := range goodEnds() {
		one, two := may(t, when, api.Proof{End: end}), may(t, when, api.Proof{Sides: []api.Hash{}, End: end})
		if !bytes.Equal(one, two) {
			t.Errorf("%s: no list %x, an empty one %x", when, one, two)
		}
	}
}

// The greatest size is told of 256 sides that are not empty, and a leaf; the least of no side, and nothing.
func TestSizes(t *testing.T) {
	greatest := api.Proof{Sides: sides(256), End: leaf(keyY, digest(1))}
	if b := may(t, "the greatest", greatest); len(b) != 8291 {
		t.Errorf("256 sides and a leaf are %d bytes", len(b))
	}
	for _, n := range numbers {
		for pattern, l := range patterns(n) {
			for when, end := range goodEnds() {
				size, e := pack.Size(api.Proof{Sides: l, End: end})
				want := 2 + (n+7)/8 + 32*shortOf(l) + 1
				if end.Kind == api.Leaf {
					want += 64
				}
				if size != want || e != api.OK || size > 8291 || size < 3 {
					t.Errorf("Size of %d sides, %s, and %s = %d, %d, not %d", n, pattern, when, size, e, want)
				}
			}
		}
	}
}

// shortOf tells how many sides are not the empty digest.
func shortOf(l []api.Hash) int {
	return len(slices.DeleteFunc(slices.Clone(l), func(h api.Hash) bool { return h == empty }))
}

// A unique holds the bytes of proofs that are all unlike.
type unique struct {
	t    *testing.T
	seen map[string]api.Proof
}

// add sees that a proof that is unlike all others has bytes that are, too.
func (u unique) add(p api.Proof) {
	u.t.Helper()
	b := string(encoded(u.t, "unique", p))
	if other, twice := u.seen[b]; twice {
		u.t.Fatalf("%x and %x have the same bytes", p, other)
	}
	u.seen[b] = p
}

// All lists of up to five sides out of three, with each of three ends.
func TestUnlikeSmallProofs(t *testing.T) {
	u := unique{t, map[string]api.Proof{}}
	lists := [][]api.Hash{nil}
	for range 6 {
		var longer [][]api.Hash
		for _, l := range lists {
			for _, end := range []api.Node{{}, leaf(keyZ, api.Hash{}), leaf(keyY, digest(1))} {
				u.add(api.Proof{Sides: l, End: end})
			}
			for _, h := range []api.Hash{empty, digest(1), {}} {
				longer = append(longer, append(slices.Clip(l), h))
			}
		}
		lists = longer
	}
	if len(u.seen) != 3*364 {
		t.Errorf("%d proofs", len(u.seen))
	}
}

// Proofs that differ from one in one thing alone: a bit of a side, of the end's key or value; a side that is empty instead, one less, one more, two in each other's place; another end.
func TestUnlikeNeighbours(t *testing.T) {
	for _, n := range []int{1, 2, 7, 8, 9, 20} {
		u := unique{t, map[string]api.Proof{}}
		p := api.Proof{Sides: sides(n), End: leaf(scattered(1), digest(1))}
		u.add(p)
		u.add(api.Proof{Sides: p.Sides})
		for i := range n {
			for d := range 256 {
				u.add(with(p, func(l []api.Hash) []api.Hash { l[i] = flip(l[i], d); return l }))
			}
			u.add(with(p, func(l []api.Hash) []api.Hash { l[i] = empty; return l }))
			u.add(with(p, func(l []api.Hash) []api.Hash { return slices.Delete(l, i, i+1) }))
			u.add(with(p, func(l []api.Hash) []api.Hash { return slices.Insert(l, i, empty) }))
			u.add(with(p, func(l []api.Hash) []api.Hash { return slices.Insert(l, i, digest(1000)) }))
			for j := range i {
				u.add(with(p, func(l []api.Hash) []api.Hash { l[i], l[j] = l[j], l[i]; return l }))
			}
		}
		for more := range 256 - n {
			u.add(api.Proof{Sides: append(sides(n), empties(more+1)...), End: p.End})
		}
		for d := range 256 {
			u.add(api.Proof{Sides: p.Sides, End: leaf(flip(p.End.Key, d), p.End.Value)})
			u.add(api.Proof{Sides: p.Sides, End: leaf(p.End.Key, flip(p.End.Value, d))})
		}
	}
}

// with tells a proof with its sides changed, the end the same.
func with(p api.Proof, change func(l []api.Hash) []api.Hash) api.Proof {
	return api.Proof{Sides: change(slices.Clone(p.Sides)), End: p.End}
}

// All 65,536 ways in which sixteen sides are empty or not have bytes of their own.
func TestUnlikeBits(t *testing.T) {
	u := unique{t, map[string]api.Proof{}}
	like := slices.Repeat([]api.Hash{digest(1)}, 16)
	for x := range 1 << 16 {
		l := slices.Clone(like)
		for i := range l {
			if x>>i&1 == 0 {
				l[i] = empty
			}
		}
		u.add(api.Proof{Sides: l})
	}
}

// What is told of a proof hangs on it alone: told again, others between, it is the same.
func TestToldAgain(t *testing.T) {
	p := api.Proof{Sides: marked(strings.Repeat("10011", 30)), End: leaf(keyX, digest(1))}
	want := may(t, "at first", p)
	for i := range 20 {
		mayNot(t, "between", api.Proof{Sides: sides(257 + i)}, api.ErrLong)
		mayNot(t, "between", api.Proof{End: api.Node{Kind: 9}}, api.ErrArg)
		unread(t, "between", want[:i])
		may(t, "between", api.Proof{Sides: sides(i)})
		if b := may(t, "again", p); !bytes.Equal(b, want) {
			t.Fatalf("Encode = %s, and before %s", brief(b), brief(want))
		}
	}
}
