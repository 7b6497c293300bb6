package verify_test

import (
	"fmt"
	"slices"
	"testing"

	"rootcellar/api"
	"rootcellar/verify"
)

// accepted is a key's proof under a root.
type accepted struct {
	root api.Hash
	key  api.Path
	b    []byte
}

// right are proofs that are accepted: no side, few, many, of each kind of end.
func right() map[string]accepted {
	m := map[string]accepted{}
	for _, n := range []int{0, 1, 2, 7, 8, 9, 17, 255, 256} {
		key := scattered(n)
		ends := map[string]api.Node{"nothing": {}, "its leaf": leaf(key, valueOf([]byte("A")))}
		if n < 256 {
			ends["another leaf"] = leaf(flip(key, n), valueOf([]byte("B")))
		}
		for end, node := range ends {
			for i, l := range [][]api.Hash{sides(n), empties(n), mixed(n)} {
				root, b := topOf(key, l, node)
				m[fmt.Sprint(n, " sides, list ", i, ", ", end)] = accepted{root, key, b}
			}
		}
	}
	return m
}

// All of them are accepted, and say just what their end does.
func TestRightBytes(t *testing.T) {
	for when, a := range right() {
		byWords(t, when, a.root, a.key, a.b)
		if _, e := verify.Read(a.root, a.key, a.b); e != api.OK {
			t.Errorf("%s: Read = %d", when, e)
		}
		nowhereElse(t, when, a.root, a.key, a.b)
	}
}

// refusedOf sees that changed bytes are no proof's, under the root, too, under which the others are accepted.
func refusedOf(t testing.TB, when string, a accepted, changed []byte) {
	t.Helper()
	reads(t, when, a.root, a.key, changed, api.Said{}, api.ErrBytes)
	tops(t, when, a.key, changed, api.Hash{}, api.ErrBytes)
}

// Nothing, each beginning of right bytes, and right bytes with more behind them are refused.
func TestCutOffAndGoingOn(t *testing.T) {
	for when, a := range right() {
		step := 1
		if len(a.b) > 1000 {
			step = 61
		}
		for n := 0; n < len(a.b); n += step {
			refusedOf(t, fmt.Sprint(when, ", cut off at ", n), a, a.b[:n])
		}
		refusedOf(t, when+", without the last", a, a.b[:len(a.b)-1])
		for _, more := range [][]byte{{0}, {1}, {255}, make([]byte, 32), make([]byte, 65), a.b} {
			refusedOf(t, fmt.Sprint(when, ", ", len(more), " more"), a, slices.Concat(a.b, more))
		}
		refusedOf(t, when+", one more ahead", a, slices.Concat([]byte{0}, a.b))
	}
	unread(t, "nothing", nil)
	unread(t, "no bytes", []byte{})
}

// An end that is an inner node is refused, even where its digest is the one that is asked for.
func TestInnerEnd(t *testing.T) {
	for _, n := range []int{0, 1, 8, 9, 256} {
		l := sides(n)
		for when, h := range map[string][2]api.Hash{"of leaves": {leafOf(keyZ, valueOf(nil)), leafOf(keyY, valueOf(nil))}, "of noughts": {}, "of empty sides": {empty, empty}, "of the key": {api.Hash(keyX), valueOf(nil)}} {
			root := innerOf(h[0], h[1])
			for d := n - 1; d >= 0; d-- {
				root = innerOf(root, l[d]) // up with the key of noughts
			}
			b := packed(l, api.Node{})
			b = slices.Concat(b[:len(b)-1], []byte{2}, h[0][:], h[1][:])
			unread(t, fmt.Sprint(n, " sides, an inner node ", when), b, root)
		}
	}
}

// Ends that are no node's text, of each length near those that are.
func TestEndThatIsNoNode(t *testing.T) {
	for _, n := range []int{0, 1, 9, 256} {
		b := packed(mixed(n), api.Node{})
		b = b[:len(b)-1]
		for kind := range 256 {
			for _, size := range []int{0, 1, 31, 32, 33, 63, 64, 65, 96} {
				if kind == 0 && size == 0 || kind == 1 && size == 64 {
					continue
				}
				if kind > 3 && size != 0 && size != 64 {
					continue
				}
				unread(t, fmt.Sprint(n, " sides, an end of the kind ", kind, " with ", size, " bytes"), slices.Concat(b, []byte{byte(kind)}, make([]byte, size)))
			}
		}
	}
}

// More than 256 sides are refused, though their bits and digests be there.
func TestTooManySides(t *testing.T) {
	for _, n := range []int{257, 258, 264, 265, 511, 512, 513, 1000, 4096, 65535} {
		for when, end := range map[string]api.Node{"nothing": {}, "a leaf": leaf(keyZ, valueOf(nil))} {
			unread(t, fmt.Sprint(n, " empty sides, ", when), packed(empties(n), end))
			unread(t, fmt.Sprint(n, " sides, ", when), packed(make([]api.Hash, n), end))
		}
	}
}

// Bits behind the last side's, and sides that are written though they are empty, are refused: there are no two byte strings for one proof.
func TestLooseBytes(t *testing.T) {
	for _, n := range []int{1, 2, 7, 9, 15, 250, 255} {
		for when, end := range map[string]api.Node{"nothing": {}, "a leaf": leaf(keyZ, valueOf(nil))} {
			root, b := topOf(keyZ, sides(n), end)
			for i := n; i%8 != 0; i++ {
				set := slices.Clone(b)
				set[2+i/8] |= 128 >> (i % 8)
				unread(t, fmt.Sprint(when, ", the bit ", i, " behind ", n), set, root)
			}
			root, b = topOf(keyZ, empties(n), end)
			for _, i := range []int{0, n / 2, n - 1} {
				written := slices.Clone(b)
				written[2+i/8] |= 128 >> (i % 8)
				at := 2 + (n+7)/8
				unread(t, fmt.Sprint(when, ", the side ", i, " of ", n, " is written"), slices.Concat(written[:at], empty[:], written[at:]), root)
			}
		}
	}
}

// With a bit turned in any byte no bytes are accepted under the root any more: they are no proof's, or they lead up to another one.
func TestEachBitTurned(t *testing.T) {
	if testing.Short() {
		t.Skip("takes some seconds")
	}
	for when, a := range right() {
		for i := range a.b {
			if len(a.b) > 1000 && i > 40 && i < len(a.b)-70 && i%64 != 9 { // of many sides a byte each
				continue
			}
			for x := range 8 {
				if len(a.b) > 300 && x != (i+i/32)%8 { // of long ones a bit a byte
					continue
				}
				b := slices.Clone(a.b)
				b[i] ^= 1 << x
				turned(t, fmt.Sprint(when, ", the bit ", x, " of the byte ", i, " turned"), a, b)
			}
		}
	}
}

// turned sees that changed bytes are not accepted, nor lead up to the root.
func turned(t testing.TB, when string, a accepted, b []byte) {
	t.Helper()
	said, e := verify.Read(a.root, a.key, b)
	if said != (api.Said{}) || e != api.ErrBytes && e != api.ErrFalse {
		t.Fatalf("%s: Read = %v, %d", when, said, e)
	}
	h, f := verify.Top(a.key, b)
	if h == a.root || (e == api.ErrBytes) != (f == api.ErrBytes) || f != api.OK && h != (api.Hash{}) {
		t.Fatalf("%s: Top = %x, %d, and Read = %d", when, h, f, e)
	}
	if a.b[0] == 0 && a.b[1] < 3 { // of few sides
		byWords(t, when, a.root, a.key, b)
	}
}

// Any other byte instead of one of them: likewise.
func TestEachByteAnother(t *testing.T) {
	a := right()["9 sides, list 2, another leaf"]
	for i := range a.b {
		for x := range 256 {
			b := slices.Clone(a.b)
			b[i] = byte(x)
			said, e := verify.Read(a.root, a.key, b)
			if x == int(a.b[i]) {
				if e != api.OK {
					t.Fatalf("the right bytes: Read = %d", e)
				}
			} else if said != (api.Said{}) || e != api.ErrBytes && e != api.ErrFalse {
				t.Fatalf("the byte %d is %d: Read = %v, %d", i, x, said, e)
			}
		}
	}
}

// ErrBytes goes ahead of ErrFalse: refused bytes are refused under every root, for every key.
func TestOrderOfErrors(t *testing.T) {
	for when, b := range map[string][]byte{
		"nothing":                   nil,
		"one byte":                  {0},
		"two":                       {0, 0},
		"a byte behind the end":     {0, 0, 0, 0},
		"257 sides":                 {1, 1},
		"an end of the kind 3":      {0, 0, 3},
		"a bit behind the last one": {0, 0, 128, 0},
		"many bytes":                make([]byte, 1<<20),
		"many full ones":            slices.Repeat([]byte{255}, 1<<20),
	} {
		unread(t, when, b, leafOf(keyZ, valueOf(nil)), innerOf(empty, empty))
	}
	root, b := topOf(keyX, sides(3), leaf(flip(keyX, 1), valueOf(nil)))
	untrue(t, "an end aside, under its top", root, keyX, b)
	untrue(t, "an end aside, under another root", digest(1), keyX, b)
}

// Bytes of right ones with bytes left out, doubled, or put elsewhere: what the words say of them.
func TestPieces(t *testing.T) {
	c := chance(3)
	all := []accepted{}
	for _, when := range []string{"0 sides, list 0, its leaf", "1 sides, list 0, another leaf", "2 sides, list 1, nothing", "9 sides, list 2, its leaf", "8 sides, list 0, another leaf"} {
		all = append(all, right()[when])
	}
	for range 3000 {
		a, b := all[c.below(len(all))], all[c.below(len(all))]
		x := a.b[:c.below(len(a.b)+1)]
		y := b.b[c.below(len(b.b)+1):]
		byWords(t, "pieces", a.root, b.key, slices.Concat(x, y))
	}
}
