package proof_test

import (
	"fmt"
	"slices"
	"testing"

	"rootcellar/api"
	"rootcellar/proof"
	"rootcellar/tag"
)

// Ends of each kind: what is said hangs on the kind and the key alone.
func TestSaysOfEachEnd(t *testing.T) {
	v := digest(5)
	for _, n := range []int{0, 1, 2, 255, 256, 257, 300} { // how many sides there are counts for nothing here
		for _, c := range []struct {
			when  string
			end   api.Node
			key   api.Path
			there bool
		}{
			{"nothing", api.Node{}, keyZ, false},
			{"nothing", api.Node{}, keyY, false},
			{"its own leaf", leaf(keyY, v), keyY, true},
			{"its own leaf, of noughts", leaf(keyZ, v), keyZ, true},
			{"another key's leaf", leaf(keyY, v), keyX, false},
			{"another key's leaf, of noughts", leaf(keyZ, v), keyO, false},
			{"an inner node", api.Node{Kind: api.Inner, Left: v, Right: v}, keyZ, false},
			{"an inner node with the key", api.Node{Kind: api.Inner, Key: keyY, Value: v}, keyY, false},
			{"nothing with the key", api.Node{Key: keyY, Value: v}, keyY, false},
			{"no kind", api.Node{Kind: 3, Key: keyY, Value: v}, keyY, false},
			{"no kind", api.Node{Kind: 255, Key: keyY, Value: v}, keyY, false},
		} {
			p := api.Proof{Sides: sides(n), End: c.end}
			if !c.there {
				absent(t, c.when, c.key, p)
				continue
			}
			says(t, c.when, c.key, p, true, v)
		}
	}
}

// A value's digest may be any one, the zero one and the empty one, too.
func TestSaysOfEachValue(t *testing.T) {
	for _, v := range []api.Hash{{}, tag.Empty(), tag.Value(nil), digest(9)} {
		says(t, "there", keyX, api.Proof{End: leaf(keyX, v)}, true, v)
		absent(t, "another key", keyO, api.Proof{End: leaf(keyX, v)})
		p := api.Proof{Sides: sides(2), End: leaf(keyX, v)}
		holds(t, "there", up(keyX, p), keyX, p, true)
	}
}

// Another key is another key whichever bit it parts at.
func TestSaysOfKeysThatPartAtEachBit(t *testing.T) {
	p := api.Proof{Sides: sides(3), End: leaf(scattered(1), digest(5))}
	says(t, "its own", scattered(1), p, true, digest(5))
	for d := range 256 {
		absent(t, fmt.Sprint("parted at ", d), flip(scattered(1), d), p)
	}
}

// Ends that may not be, and inner nodes, are refused, and so are more than 256 sides, which goes ahead.
func TestHoldsRefuses(t *testing.T) {
	v := digest(5)
	for _, c := range []struct {
		when string
		end  api.Node
	}{
		{"an inner node", api.Node{Kind: api.Inner, Left: v, Right: v}},
		{"an inner node of noughts", api.Node{Kind: api.Inner}},
		{"no kind", api.Node{Kind: 3}},
		{"no kind", api.Node{Kind: 255}},
		{"no kind, a leaf else", api.Node{Kind: 3, Key: keyY, Value: v}},
		{"nothing with a key", api.Node{Key: keyY}},
		{"nothing with a value", api.Node{Value: v}},
		{"nothing with a left side", api.Node{Left: v}},
		{"nothing with a right side", api.Node{Right: v}},
		{"a leaf with a left side", api.Node{Kind: api.Leaf, Key: keyY, Value: v, Left: v}},
		{"a leaf with a right side", api.Node{Kind: api.Leaf, Key: keyY, Value: v, Right: v}},
		{"another key's leaf with a right side", api.Node{Kind: api.Leaf, Key: keyZ, Value: v, Right: v}},
		{"an inner node with a key", api.Node{Kind: api.Inner, Key: keyY, Left: v, Right: v}},
	} {
		for _, n := range []int{0, 1, 255, 256} {
			refused(t, c.when, keyY, api.Proof{Sides: sides(n), End: c.end}, api.ErrArg)
		}
		for _, n := range []int{257, 258, 1000} {
			refused(t, c.when+", and too many sides", keyY, api.Proof{Sides: sides(n), End: c.end}, api.ErrLong)
		}
	}
}

// No side, one, 256 and 257, with each end that may be.
func TestHoldsBySides(t *testing.T) {
	key := scattered(4)
	for _, c := range []struct {
		when string
		end  api.Node
	}{{"nothing", api.Node{}}, {"its own leaf", leaf(key, digest(5))}, {"another key's leaf", leaf(flip(key, 255), digest(5))}} {
		for _, n := range []int{0, 1, 2, 7, 8, 9, 128, 254, 255, 256} {
			for _, l := range [][]api.Hash{sides(n), empties(n), make([]api.Hash, n)} {
				p := api.Proof{Sides: l, End: c.end}
				want := c.end.Kind == api.Empty || n <= common(key, c.end.Key) // another key's leaf ends no way of 256 sides
				holds(t, fmt.Sprint(c.when, " behind ", n), up(key, p), key, p, want)
				short(t, fmt.Sprint(c.when, " behind ", n), p, shortOf(l))
			}
		}
		for _, n := range []int{257, 258, 512, 70000} {
			refused(t, fmt.Sprint(c.when, " behind ", n), key, api.Proof{Sides: slices.Repeat(sides(1), n), End: c.end}, api.ErrLong)
		}
	}
}

// shortOf tells how many sides are not the empty digest.
func shortOf(l []api.Hash) int {
	return len(slices.DeleteFunc(slices.Clone(l), func(h api.Hash) bool { return h == tag.Empty() }))
}

// Another key's leaf that parts at a bit ends ways of so many sides, of one less, and not of one more: its digest at the top is the root each time.
func TestHoldsByWhatAnotherKeyHasInCommon(t *testing.T) {
	for d := range 256 {
		key := scattered(d)
		far := flip(key, d)
		for i := d + 1; i < 256; i += 41 { // what stands behind that bit counts for nothing
			far = flip(far, i)
		}
		for _, other := range []api.Path{flip(key, d), far} {
			end := leaf(other, digest(5))
			for _, n := range []int{0, d - 1, d, d + 1, d + 2, 256} {
				if n < 0 || n > 256 {
					continue
				}
				p := api.Proof{Sides: sides(n), End: end}
				holds(t, fmt.Sprint("parted at ", d, " behind ", n), up(key, p), key, p, n <= d)
				absent(t, "another key's", key, p)
			}
		}
	}
}

// Of a leaf that stands beside a key's way the digests may go up to the root, and nothing holds even so.
func TestLeafBesideTheWay(t *testing.T) {
	p := api.Proof{Sides: []api.Hash{tag.Empty(), digest(1)}, End: leaf(keyY, digest(5))}
	root := up(keyZ, p) // as if Y's leaf stood on the way of Z
	holds(t, "Z", root, keyZ, p, false)
	holds(t, "O", root, keyO, p, false)
	holds(t, "X", up(keyX, p), keyX, p, false)
	p.Sides = p.Sides[:1]
	holds(t, "X", up(keyX, p), keyX, p, false)
	p.Sides = nil
	holds(t, "X, no sides", up(keyX, p), keyX, p, true)
}

// A key's own leaf and nothing end each way: no key has to have anything in common with them.
func TestOwnLeafAndNothingEndEachWay(t *testing.T) {
	for n := range 257 {
		for _, key := range []api.Path{keyZ, keyY, keyN, scattered(n)} {
			for _, end := range []api.Node{{}, leaf(key, digest(5))} {
				p := api.Proof{Sides: sides(n), End: end}
				holds(t, fmt.Sprint(n, " sides"), up(key, p), key, p, true)
			}
		}
	}
}

// Roots: the right one alone, to its last bit.
func TestHoldsByRoots(t *testing.T) {
	key := scattered(2)
	for _, p := range []api.Proof{{}, {End: leaf(key, digest(5))}, {Sides: sides(9)}, {Sides: sides(9), End: leaf(key, digest(5))}, {Sides: sides(9), End: leaf(flip(key, 9), digest(5))}} {
		root := up(key, p)
		holds(t, "the root", root, key, p, true)
		for i := range 256 {
			holds(t, "one bit turned", api.Hash(flip(api.Path(root), i)), key, p, false)
		}
		holds(t, "zero", api.Hash{}, key, p, false)
		holds(t, "the empty digest", tag.Empty(), key, p, root == tag.Empty())
		holds(t, "the end's digest", up(key, api.Proof{End: p.End}), key, p, len(p.Sides) == 0)
	}
}

// turned tells all proofs that differ from one in one thing: one bit of a side, of the end's key or value; a side less, one more, two sides in each other's place.
func turned(p api.Proof) map[string]api.Proof {
	all := map[string]api.Proof{}
	for i := range p.Sides {
		for _, d := range []int{0, 100, 255} {
			q := api.Proof{Sides: slices.Clone(p.Sides), End: p.End}
			q.Sides[i] = api.Hash(flip(api.Path(q.Sides[i]), d))
			all[fmt.Sprint("the bit ", d, " of the side ", i)] = q
		}
		all[fmt.Sprint("without the side ", i)] = api.Proof{Sides: slices.Delete(slices.Clone(p.Sides), i, i+1), End: p.End}
		if i > 0 && p.Sides[i] != p.Sides[i-1] {
			q := api.Proof{Sides: slices.Clone(p.Sides), End: p.End}
			q.Sides[i], q.Sides[i-1] = q.Sides[i-1], q.Sides[i]
			all[fmt.Sprint("the side ", i, " ahead of the one ahead")] = q
		}
	}
	if len(p.Sides) < 256 {
		all["one side more"] = api.Proof{Sides: append(slices.Clone(p.Sides), tag.Empty()), End: p.End}
	}
	for _, d := range []int{0, 1, 100, 254, 255} {
		if p.End.Kind != api.Leaf {
			break
		}
		all[fmt.Sprint("the bit ", d, " of the end's key")] = api.Proof{Sides: p.Sides, End: leaf(flip(p.End.Key, d), p.End.Value)}
		all[fmt.Sprint("the bit ", d, " of the end's value")] = api.Proof{Sides: p.Sides, End: leaf(p.End.Key, api.Hash(flip(api.Path(p.End.Value), d)))}
	}
	if p.End != (api.Node{}) {
		all["nothing for an end"] = api.Proof{Sides: p.Sides}
	}
	all["another end"] = api.Proof{Sides: p.Sides, End: leaf(scattered(99), digest(5))}
	return all
}

// A proof in which anything is turned does not hold under the root of the map, nor does one of another key that is on another way.
func TestHoldsOfTurnedProofs(t *testing.T) {
	d := of(t, keyZ, keyO, keyX, keyY, keyN, scattered(1), scattered(2), near(2), flip(scattered(1), 20))
	root := rootOf(t, d, "")
	for _, key := range []api.Path{keyZ, keyX, keyY, keyN, scattered(1), flip(scattered(1), 19), flip(scattered(2), 255), flip(keyY, 3)} {
		p := prove(t, d, "", key)
		holds(t, "the proof", root, key, p, true)
		for when, q := range turned(p) {
			holds(t, when, root, key, q, false)
		}
		for i := range p.Sides {
			holds(t, fmt.Sprint("a key that goes the other way at ", i), root, flip(key, i), p, false)
		}
	}
}

// Sides that are the empty digest count for nothing, wherever they stand; the zero digest counts.
func TestShort(t *testing.T) {
	short(t, "no sides", api.Proof{}, 0)
	short(t, "no sides, a leaf", api.Proof{End: leaf(keyY, digest(5))}, 0)
	for _, n := range []int{1, 2, 3, 255, 256, 257, 1000} {
		when := fmt.Sprint(n, " sides")
		short(t, when, api.Proof{Sides: sides(n)}, n)
		short(t, when+", zero", api.Proof{Sides: make([]api.Hash, n)}, n)
		short(t, when+", all alike", api.Proof{Sides: slices.Repeat(sides(1), n)}, n)
		short(t, when+", all empty", api.Proof{Sides: empties(n)}, 0)
		for _, i := range []int{0, n / 2, n - 1} {
			one := empties(n)
			one[i] = digest(i)
			short(t, when+", all but one empty", api.Proof{Sides: one}, 1)
			all := sides(n)
			all[i] = tag.Empty()
			short(t, when+", one empty", api.Proof{Sides: all}, n-1)
		}
	}
	for i := range 256 {
		short(t, "one bit off the empty digest", api.Proof{Sides: []api.Hash{tag.Empty(), api.Hash(flip(api.Path(tag.Empty()), i))}}, 1)
	}
	short(t, "whatever the end", api.Proof{Sides: append(sides(2), empties(3)...), End: api.Node{Kind: 9, Left: tag.Empty()}}, 2)
}

// laid tells a proof that bytes say: sides, empty ones among them, and any end.
func laid(key api.Path, b []byte) api.Proof {
	var p api.Proof
	if len(b) < 3 {
		return p
	}
	for i := range int(b[0]) + int(b[1])%3 {
		if i%7 == int(b[2])%7 {
			p.Sides = append(p.Sides, tag.Empty())
		} else {
			p.Sides = append(p.Sides, digest(i))
		}
	}
	switch b[2] % 8 {
	case 1, 2:
		p.End = leaf(key, digest(5))
	case 3, 4, 5:
		p.End = leaf(flip(key, len(p.Sides)%256), digest(5))
	case 6:
		p.End = leaf(flip(key, int(b[1])), digest(5))
	case 7:
		p.End = api.Node{Kind: api.Kind(b[1] % 4), Key: key, Left: digest(int(b[2]) / 128)}
	}
	return p
}

func FuzzHolds(f *testing.F) {
	f.Add([]byte{}, []byte{})
	f.Add([]byte{7}, []byte{9, 0, 3})
	f.Add([]byte{255, 0}, []byte{255, 1, 1})
	f.Add([]byte{1, 2, 3}, []byte{255, 2, 15})
	f.Fuzz(func(t *testing.T, bits, b []byte) {
		key := keyZ
		for _, d := range bits[:min(len(bits), 99)] {
			key = flip(key, int(d))
		}
		p := laid(key, b)
		short(t, "fuzz", p, shortOf(p.Sides))
		own := p.End.Kind == api.Leaf && p.End.Key == key
		if there, _ := proof.Says(key, p); there != own {
			t.Fatalf("Says(%x, %x) = %t", key, p, there)
		}
		isLeaf := p.End == leaf(p.End.Key, p.End.Value)
		switch {
		case len(p.Sides) > 256:
			refused(t, "fuzz", key, p, api.ErrLong)
		case !isLeaf && p.End != (api.Node{}):
			refused(t, "fuzz", key, p, api.ErrArg)
		default:
			holds(t, "fuzz", up(key, p), key, p, !isLeaf || own || common(key, p.End.Key) >= len(p.Sides))
			holds(t, "fuzz, another root", digest(900), key, p, false)
		}
	})
}
