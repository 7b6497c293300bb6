package pack_test

import (
	"fmt"
	"slices"
	"strings"
	"testing"

	"rootcellar/api"
	"rootcellar/pack"
)

// right are proofs whose bytes are changed in these tests: no side, few, many; empty ones and others; both kinds of end.
func right() map[string]api.Proof {
	l := leaf(scattered(1), digest(1))
	return map[string]api.Proof{
		"nothing":                 {},
		"a leaf alone":            {End: l},
		"a leaf of noughts":       {End: api.Node{Kind: api.Leaf}},
		"one side":                {Sides: sides(1)},
		"one empty side":          {Sides: empties(1)},
		"a side of noughts":       {Sides: make([]api.Hash, 1)},
		"one side and a leaf":     {Sides: sides(1), End: l},
		"seven":                   {Sides: marked("1010110"), End: l},
		"eight":                   {Sides: marked("01101001")},
		"eight empty":             {Sides: empties(8), End: l},
		"nine":                    {Sides: marked("100000001"), End: l},
		"nine, the last empty":    {Sides: marked("111111110")},
		"256 empty, nothing":      {Sides: empties(256)},
		"256, the last not empty": {Sides: marked(strings.Repeat("0", 255) + "1"), End: l},
		"255, some empty":         {Sides: marked(strings.Repeat("00010", 51)), End: l},
	}
}

// Of right bytes no beginning is right, nor are they with anything behind them.
func TestCutOffAndGoingOn(t *testing.T) {
	for when, p := range right() {
		b := may(t, when, p)
		for n := range b {
			unread(t, fmt.Sprint(when, ", cut off at ", n), b[:n])
		}
		for x := range 256 {
			unread(t, fmt.Sprint(when, ", with ", x, " behind"), append(slices.Clip(b), byte(x)))
		}
		for _, n := range []int{2, 31, 32, 33, 64, 65, 1000, 100000} {
			unread(t, fmt.Sprint(when, ", with ", n, " noughts behind"), append(slices.Clip(b), make([]byte, n)...))
		}
		unread(t, when+", twice", append(slices.Clip(b), b...))
	}
	whole := may(t, "the greatest", api.Proof{Sides: sides(256), End: leaf(keyY, digest(1))})
	for n := range whole {
		unread(t, fmt.Sprint("the greatest, cut off at ", n), whole[:n])
	}
	unread(t, "the greatest, with a nought behind", append(whole, 0))
}

// More than 256 sides are refused, though their bits and digests be there.
func TestNumberAbove256(t *testing.T) {
	for _, n := range []int{257, 258, 263, 264, 265, 272, 511, 512, 513, 1024, 4096, 32768, 65534, 65535} {
		for when, end := range map[string]api.Node{"nothing": {}, "a leaf": leaf(keyY, digest(1))} {
			unread(t, fmt.Sprint(n, " empty sides, ", when), byWords(api.Proof{Sides: empties(n), End: end}))
			unread(t, fmt.Sprint(n, " sides, ", when), byWords(api.Proof{Sides: make([]api.Hash, n), End: end}))
		}
		unread(t, fmt.Sprint(n, " sides alone"), []byte{byte(n >> 8), byte(n)})
		unread(t, fmt.Sprint(n, " sides, without bits"), []byte{byte(n >> 8), byte(n), 0})
	}
	for n := 257; n < 65536; n += 97 {
		unread(t, fmt.Sprint(n, " empty sides"), append([]byte{byte(n >> 8), byte(n)}, make([]byte, (n+7)/8+1)...))
	}
}

// Each bit behind the last side's is 0, whether a digest stands there for it or not.
func TestBitsBehindTheLastSide(t *testing.T) {
	for _, n := range []int{1, 2, 3, 4, 5, 6, 7, 9, 15, 17, 249, 250, 254, 255} {
		for when, p := range map[string]api.Proof{"none empty": {Sides: sides(n)}, "all empty": {Sides: empties(n), End: leaf(keyY, digest(1))}} {
			b := may(t, when, p)
			bits := 2 + (n+7)/8
			for i := n; i%8 != 0; i++ {
				set := slices.Clone(b)
				set[2+i/8] |= 128 >> (i % 8)
				unread(t, fmt.Sprint(when, ", the bit ", i, " of ", n), set)
				side := digest(1000)
				first, last := slices.Insert(slices.Clone(set), bits, side[:]...), slices.Insert(slices.Clone(set), bits+32*shortOf(p.Sides), side[:]...)
				unread(t, fmt.Sprint(when, ", the bit ", i, " of ", n, " with a digest ahead"), first)
				unread(t, fmt.Sprint(when, ", the bit ", i, " of ", n, " with a digest behind"), last)
			}
			all := slices.Clone(b)
			all[bits-1] |= 1<<(8*bits-16-n) - 1
			unread(t, when+", all bits", all)
		}
	}
}

// There are as few bytes of bits as hold them: none less, none more.
func TestNumberOfBytesOfBits(t *testing.T) {
	for when, p := range right() {
		b, at := may(t, when, p), 2+(len(p.Sides)+7)/8
		unread(t, when+", a byte of bits more", slices.Insert(slices.Clone(b), at, 0))
		if at > 2 {
			unread(t, when+", a byte of bits less", slices.Delete(slices.Clone(b), at-1, at))
		}
	}
}

// A side that is the empty digest is never written, wherever it stands.
func TestEmptySideIsWritten(t *testing.T) {
	e := empty
	for _, n := range []int{1, 2, 7, 8, 9, 255, 256} {
		for i := range n {
			for when, l := range map[string][]api.Hash{"others not empty": sides(n), "others empty": empties(n)} {
				l[i] = empty
				b := byWords(api.Proof{Sides: l})
				b[2+i/8] |= 128 >> (i % 8)
				at := 2 + (n+7)/8 + 32*shortOf(l[:i])
				unread(t, fmt.Sprint("the side ", i, " of ", n, ", ", when), slices.Insert(b, at, e[:]...))
			}
		}
		written := slices.Concat([]byte{byte(n >> 8), byte(n)}, byWords(api.Proof{Sides: sides(n)})[2:2+(n+7)/8], slices.Repeat(e[:], n), []byte{0})
		unread(t, fmt.Sprint("all of ", n), written)
	}
}

// A bit turned: the bytes are those of another proof, or none.
func TestTurnedBits(t *testing.T) {
	for when, p := range right() {
		b, accepted := may(t, when, p), 0
		for i := range b {
			for x := range 8 {
				turned := slices.Clone(b)
				turned[i] ^= 1 << x
				if !asByWords(t, fmt.Sprint(when, ", the byte ", i, " turned at ", x), turned) {
					continue
				}
				accepted++
				if q, _ := pack.Decode(turned); likeProofs(p, q) {
					t.Fatalf("%s: two byte strings of one proof: %s, %s", when, brief(b), brief(turned))
				}
			}
		}
		want := 256 * shortOf(p.Sides) // each bit of a written digest and of a leaf's two fields is free
		if p.End.Kind == api.Leaf {
			want += 512
		}
		if accepted < want {
			t.Errorf("%s: %d bits may be turned, not %d", when, accepted, want)
		}
	}
}

// A byte turned to any other one, in the bytes that say what stands where.
func TestOtherBytes(t *testing.T) {
	for when, p := range right() {
		b := may(t, when, p)
		end := 1
		if p.End.Kind == api.Leaf {
			end = 65
		}
		places := []int{0, 1, len(b) - end}
		for i := range (len(p.Sides) + 7) / 8 {
			places = append(places, 2+i)
		}
		for _, i := range places {
			for x := range 256 {
				other := slices.Clone(b)
				other[i] = byte(x)
				asByWords(t, fmt.Sprint(when, ", the byte ", i, " is ", x), other)
			}
		}
	}
}

// Ends: an inner node, a text of no kind, one that is cut off, too long, or not there.
func TestEndsThatAreNone(t *testing.T) {
	a, b := digest(1), digest(2)
	sixtyFour := slices.Concat(a[:], b[:])
	bad := map[string][]byte{
		"none":                      {},
		"an inner node":             append([]byte{2}, sixtyFour...),
		"an inner node of noughts":  append([]byte{2}, make([]byte, 64)...),
		"the kind of an inner node": {2},
		"the kind of a leaf":        {1},
		"nothing with a leaf's":     append([]byte{0}, sixtyFour...),
		"nothing with noughts":      append([]byte{0}, make([]byte, 64)...),
		"a leaf that goes on":       append(append([]byte{1}, sixtyFour...), 0),
		"two of nothing":            {0, 0},
		"nothing and a leaf":        append([]byte{0, 1}, sixtyFour...),
		"a leaf and nothing":        append(append([]byte{1}, sixtyFour...), 0),
		"a value's text":            {3, 65},
		"a leaf of three parts":     slices.Concat([]byte{1}, sixtyFour, a[:]),
	}
	for n := range 64 {
		bad[fmt.Sprint("a leaf with ", n)] = append([]byte{1}, sixtyFour[:n]...)
		bad[fmt.Sprint("an inner node with ", n)] = append([]byte{2}, sixtyFour[:n]...)
	}
	for kind := 3; kind < 256; kind++ {
		bad[fmt.Sprint("the kind ", kind)] = append([]byte{byte(kind)}, sixtyFour...)
		bad[fmt.Sprint("the kind ", kind, " alone")] = []byte{byte(kind)}
	}
	for _, n := range []int{0, 1, 8, 9, 255, 256} {
		for _, l := range [][]api.Hash{sides(n), empties(n)} {
			whole := byWords(api.Proof{Sides: l})
			head := slices.Clip(whole[:len(whole)-1])
			for when, end := range bad {
				unread(t, fmt.Sprint(n, " sides, ", when), append(head, end...))
			}
			read(t, "a leaf", slices.Concat(head, []byte{1}, sixtyFour), api.Proof{Sides: l, End: leaf(api.Path(a), b)})
		}
	}
}

// All strings of up to six bytes out of those that mean something.
func TestAllShortBytes(t *testing.T) {
	some, accepted := []byte{0, 1, 2, 8, 9, 64, 128, 255}, 0
	var all func(b []byte)
	all = func(b []byte) {
		if asByWords(t, "short", b) {
			accepted++
		}
		if len(b) < 6 {
			for _, x := range some {
				all(append(slices.Clip(b), x))
			}
		}
	}
	all(nil)
	if accepted != 5 { // no side, and 1, 2, 8, 9 empty ones
		t.Errorf("%d are proofs", accepted)
	}
	for x := range 256 {
		unread(t, "one byte", []byte{byte(x)})
		for y := range 256 {
			unread(t, "two bytes", []byte{byte(x), byte(y)})
			asByWords(t, "three bytes", []byte{0, byte(x), byte(y)})
			asByWords(t, "four bytes", []byte{0, byte(x), byte(y), 0})
		}
	}
}

// Drawn bytes, of all lengths, with beginnings that let them go on.
func TestDrawnBytes(t *testing.T) {
	c := chance(17)
	for i := range 20000 {
		b := c.bytes(c.below(600))
		if i%2 == 0 && len(b) > 2 {
			b[0], b[1] = 0, byte(c.below(20))
		}
		asByWords(t, "drawn", b)
	}
}

// Drawn proofs, and their bytes after some changes: bytes put in, left out, changed, moved.
func TestDrawnProofs(t *testing.T) {
	c := chance(18)
	for i := range 1500 {
		p := c.proof([]int{3, 12, 40, 256}[i%4])
		b := may(t, "drawn", p)
		for range 20 {
			asByWords(t, "changed", c.changed(b))
		}
	}
}

// changed tells bytes with a few changes.
func (c *chance) changed(b []byte) []byte {
	b = slices.Clone(b)
	e := empty
	for range 1 + c.below(3) {
		i := c.below(len(b) + 1)
		j := i + c.below(min(len(b)-i, 70)+1)
		switch c.below(7) {
		case 0:
			b = slices.Delete(b, i, j)
		case 1:
			b = slices.Insert(b, i, c.bytes(c.below(70))...)
		case 2:
			copy(b[i:], c.bytes(c.below(4)))
		case 3:
			copy(b[i:], e[:])
		case 4:
			b = slices.Insert(b, i, e[:]...)
		case 5:
			slices.Reverse(b[i:j])
		case 6:
			if len(b) > 2 {
				b[2+c.below(min(len(b)-2, 3))] ^= 1 << c.below(8)
			}
		}
	}
	return b
}

// Very many bytes are refused as few are.
func TestManyBytes(t *testing.T) {
	for when, first := range map[string][]byte{"noughts": nil, "a leaf": {0, 0, 1}, "an empty side": {0, 1, 0, 0}, "256": {1, 0, 255}, "65535": {255, 255}} {
		unread(t, when, append(first, make([]byte, 5_000_000)...))
		unread(t, when, append(first, slices.Repeat([]byte{255}, 5_000_000)...))
	}
}

// Encode of what Decode reads are the bytes, and no two of these proofs have the same.
func TestDecodeOfEncode(t *testing.T) {
	seen := map[string]int{}
	for when, p := range right() {
		b := string(may(t, when, p))
		seen[b]++
		q, _ := pack.Decode([]byte(b))
		if again := string(encoded(t, when, q)); again != b {
			t.Errorf("%s: Encode of Decode = %s", when, brief([]byte(again)))
		}
	}
	for b, n := range seen {
		if n != 1 {
			t.Errorf("two unlike proofs have the bytes %s", brief([]byte(b)))
		}
	}
}

func FuzzDecode(f *testing.F) {
	for _, p := range right() {
		f.Add(byWords(p))
	}
	f.Add([]byte{})
	f.Add(append([]byte{0, 0, 2}, make([]byte, 64)...))
	f.Add(byWords(api.Proof{Sides: empties(257)}))
	f.Fuzz(func(t *testing.T, b []byte) { asByWords(t, "fuzz", b) })
}

func FuzzEncode(f *testing.F) {
	f.Add([]byte{}, byte(0), byte(0))
	f.Add([]byte{0, 1, 1, 0, 2, 0, 1, 1, 1}, byte(1), byte(3))
	f.Add(make([]byte, 256), byte(2), byte(0))
	f.Add(make([]byte, 257), byte(0), byte(9))
	f.Fuzz(func(t *testing.T, l []byte, kind, fields byte) {
		p := api.Proof{End: api.Node{Kind: api.Kind(kind)}}
		for _, x := range l {
			if x == 0 {
				p.Sides = append(p.Sides, empty)
			} else {
				p.Sides = append(p.Sides, digest(int(x)-1))
			}
		}
		for i, h := range []*[32]byte{(*[32]byte)(&p.End.Key), (*[32]byte)(&p.End.Value), (*[32]byte)(&p.End.Left), (*[32]byte)(&p.End.Right)} {
			if fields>>i&1 == 1 {
				*h = digest(1000 + i)
			}
		}
		right := kind == 0 && fields&15 == 0 || kind == 1 && fields&12 == 0
		switch {
		case len(l) > 256:
			mayNot(t, "fuzz", p, api.ErrLong)
		case !right:
			mayNot(t, "fuzz", p, api.ErrArg)
		default:
			may(t, "fuzz", p)
		}
	})
}
