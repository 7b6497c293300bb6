package pack_test

import (
	"bytes"
	"fmt"
	"slices"
	"strconv"
	"strings"
	"testing"

	"rootcellar/api"
	"rootcellar/octet"
	"rootcellar/pack"
	"rootcellar/sha"
	"rootcellar/tag"
)

// The keys of the document's examples, and the last key of all.
var (
	keyZ = api.Path{}
	keyO = api.Path{31: 1}
	keyX = api.Path{0: 64}
	keyY = api.Path{0: 128}
	keyN = api.Path(bytes.Repeat([]byte{255}, 32))
)

// emptyDigits is the empty digest as the document tells it.
const emptyDigits = "6e340b9cffb37a989ca544e6bb780a2c78901d3fb33738768511a30617afa01d"

// empty is the empty digest, read from the document and not told by tag.
var empty = func() api.Hash {
	b, _ := octet.Unhex(emptyDigits)
	return api.Hash(b)
}()

// digest tells a digest that is no other one's here.
func digest(i int) api.Hash { return sha.Sum([]byte{77, byte(i), byte(i >> 8), byte(i >> 16)}) }

// scattered keys are digests.
func scattered(i int) api.Path { return api.Path(sha.Sum([]byte{byte(i), byte(i >> 8)})) }

// flip turns one of 256 bits.
func flip(b [32]byte, d int) [32]byte {
	b[d/8] ^= 1 << (7 - d%8)
	return b
}

func leaf(key api.Path, value api.Hash) api.Node {
	return api.Node{Kind: api.Leaf, Key: key, Value: value}
}

func inner(left, right api.Hash) api.Node {
	return api.Node{Kind: api.Inner, Left: left, Right: right}
}

// sides tells n of them, no two alike, none the empty digest.
func sides(n int) []api.Hash {
	l := make([]api.Hash, n)
	for i := range l {
		l[i] = digest(i)
	}
	return l
}

// empties tells n sides that are the empty digest.
func empties(n int) []api.Hash { return slices.Repeat([]api.Hash{empty}, n) }

// marked tells a side for each digit: the empty digest for a 0, another one for a 1.
func marked(digits string) []api.Hash {
	l := sides(len(digits))
	for i, c := range digits {
		if c == '0' {
			l[i] = empty
		}
	}
	return l
}

// patterns are lists of n sides: of unlike digests, all empty, of noughts, full, and some empty, some not.
func patterns(n int) map[string][]api.Hash {
	third := strings.Repeat("011", n)[:n]
	return map[string][]api.Hash{
		"none empty":   sides(n),
		"all empty":    empties(n),
		"noughts":      make([]api.Hash, n),
		"full":         slices.Repeat([]api.Hash{api.Hash(keyN)}, n),
		"some empty":   marked(third),
		"others empty": marked(strings.Map(func(c rune) rune { return '0' + '1' - c }, third)),
		"first empty":  marked(strings.Repeat("0", n/2) + strings.Repeat("1", n-n/2)),
		"last empty":   marked(strings.Repeat("1", n-n/2) + strings.Repeat("0", n/2)),
	}
}

// numbers are how many sides there are, where something may go otherwise.
var numbers = []int{0, 1, 2, 6, 7, 8, 9, 10, 15, 16, 17, 31, 32, 33, 63, 64, 65, 127, 128, 129, 247, 248, 249, 254, 255, 256}

// goodEnds are ends that may be.
func goodEnds() map[string]api.Node {
	v := tag.Value(nil)
	return map[string]api.Node{
		"nothing":                      {},
		"Y's leaf":                     leaf(keyY, v),
		"a leaf of noughts":            {Kind: api.Leaf},
		"a leaf without a value":       leaf(keyY, api.Hash{}),
		"a leaf whose key is noughts":  leaf(keyZ, v),
		"a leaf with all bits":         leaf(keyN, api.Hash(keyN)),
		"a leaf with the empty digest": leaf(keyO, empty),
		"a leaf whose key is E":        leaf(api.Path(empty), digest(1)),
		"another leaf":                 leaf(scattered(3), digest(2)),
	}
}

// badEnds are ends that may not be: nodes of no kind, such with fields that their kind does not have, inner nodes.
func badEnds() map[string]api.Node {
	l := map[string]api.Node{
		"an inner node":                    inner(digest(1), digest(2)),
		"an inner node of noughts":         {Kind: api.Inner},
		"an inner node of empty sides":     inner(empty, empty),
		"an inner node with a left side":   inner(digest(1), api.Hash{}),
		"an inner node with a right side":  inner(api.Hash{}, digest(1)),
		"an inner node, a leaf else":       {Kind: api.Inner, Key: keyY, Value: digest(1)},
		"no kind, a leaf else":             {Kind: 3, Key: keyY, Value: digest(1)},
		"no kind, an inner node else":      {Kind: 3, Left: digest(1), Right: digest(2)},
		"the last kind, all fields":        {Kind: 255, Key: keyY, Value: digest(1), Left: digest(1), Right: digest(2)},
		"nothing, all fields":              {Key: keyY, Value: digest(1), Left: digest(1), Right: digest(2)},
		"a leaf with both sides":           {Kind: api.Leaf, Key: keyY, Value: digest(1), Left: digest(1), Right: digest(2)},
		"nothing with what E is":           {Left: empty, Right: empty},
		"a leaf of noughts with one side":  {Kind: api.Leaf, Right: digest(1)},
		"a leaf of noughts with the other": {Kind: api.Leaf, Left: digest(1)},
	}
	for kind := 3; kind < 256; kind++ {
		l[fmt.Sprint("the kind ", kind)] = api.Node{Kind: api.Kind(kind)}
	}
	for _, n := range []api.Node{{}, leaf(keyY, digest(1)), inner(digest(1), digest(2))} {
		oneField(l, n)
	}
	return l
}

// oneField adds nodes that have one bit of a field that n's kind does not have.
func oneField(l map[string]api.Node, n api.Node) {
	for d := 0; d < 256; d += 15 { // the first bit and the last, and some of each byte's places
		m := n
		if n.Kind != api.Leaf {
			m.Key = flip(n.Key, d)
			l[fmt.Sprintf("the kind %d with the bit %d of a key", n.Kind, d)] = m
			m = n
			m.Value = flip(n.Value, d)
			l[fmt.Sprintf("the kind %d with the bit %d of a value", n.Kind, d)] = m
			m = n
		}
		if n.Kind != api.Inner {
			m.Left = flip(n.Left, d)
			l[fmt.Sprintf("the kind %d with the bit %d of a left side", n.Kind, d)] = m
			m = n
			m.Right = flip(n.Right, d)
			l[fmt.Sprintf("the kind %d with the bit %d of a right side", n.Kind, d)] = m
		}
	}
}

// byWords tells the bytes of a proof whose end is nothing or a leaf, in the document's words; of too many sides what the words would tell of so many.
func byWords(p api.Proof) []byte {
	var digits strings.Builder
	var written []byte
	for _, side := range p.Sides {
		if side == empty {
			digits.WriteByte('0')
			continue
		}
		digits.WriteByte('1')
		written = append(written, side[:]...)
	}
	for digits.Len()%8 != 0 {
		digits.WriteByte('0')
	}
	b := []byte{byte(len(p.Sides) / 256), byte(len(p.Sides) % 256)}
	for s := digits.String(); s != ""; s = s[8:] {
		x, _ := strconv.ParseUint(s[:8], 2, 8)
		b = append(b, byte(x))
	}
	b = append(b, written...)
	if p.End.Kind == api.Empty {
		return append(b, 0)
	}
	return slices.Concat(b, []byte{1}, p.End.Key[:], p.End.Value[:])
}

// fromBytes tells the proof whose bytes these are, in the document's words: it reads them as if they were right, and sees whether the words tell them again.
func fromBytes(b []byte) (p api.Proof, ok bool) {
	if len(b) < 2 {
		return p, false
	}
	n, rest := int(b[0])*256+int(b[1]), b[2:]
	if n > 256 || len(rest) < (n+7)/8 {
		return p, false
	}
	var digits string
	for _, x := range rest[:(n+7)/8] {
		digits += fmt.Sprintf("%08b", x)
	}
	rest = rest[(n+7)/8:]
	for _, c := range digits[:n] {
		if c == '0' {
			p.Sides = append(p.Sides, empty)
			continue
		}
		if len(rest) < 32 {
			return p, false
		}
		p.Sides = append(p.Sides, api.Hash(rest[:32]))
		rest = rest[32:]
	}
	if len(rest) == 65 && rest[0] == 1 {
		p.End = leaf(api.Path(rest[1:33]), api.Hash(rest[33:]))
	}
	return p, bytes.Equal(byWords(p), b)
}

// likeProofs tells whether two proofs are the same.
func likeProofs(a, b api.Proof) bool { return slices.Equal(a.Sides, b.Sides) && a.End == b.End }

// brief tells bytes for a message, the midst of many left out.
func brief(b []byte) string {
	if len(b) <= 120 {
		return fmt.Sprintf("%x", b)
	}
	return fmt.Sprintf("%x..%x (%d bytes)", b[:60], b[len(b)-60:], len(b))
}

// encoded tells the bytes of a proof that may be.
func encoded(t testing.TB, when string, p api.Proof) []byte {
	t.Helper()
	b, e := pack.Encode(p)
	if e != api.OK {
		t.Fatalf("%s: Encode of %d sides and %v = %d", when, len(p.Sides), p.End, e)
	}
	return b
}

// may holds all calls against a proof that may be: its bytes are those of the words, Size is how many, and it comes back out of them.
func may(t testing.TB, when string, p api.Proof) []byte {
	t.Helper()
	if e := pack.Check(p); e != api.OK {
		t.Fatalf("%s: Check = %d", when, e)
	}
	b := encoded(t, when, p)
	if want := byWords(p); !bytes.Equal(b, want) {
		t.Fatalf("%s: Encode = %s, not %s", when, brief(b), brief(want))
	}
	if n, e := pack.Size(p); n != len(b) || e != api.OK {
		t.Fatalf("%s: Size = %d, %d, not %d", when, n, e, len(b))
	}
	read(t, when, b, p)
	return b
}

// mayNot holds the three calls that a proof is handed to against one that may not be.
func mayNot(t testing.TB, when string, p api.Proof, want api.Errno) {
	t.Helper()
	if e := pack.Check(p); e != want {
		t.Errorf("%s, %d sides: Check = %d, not %d", when, len(p.Sides), e, want)
	}
	if b, e := pack.Encode(p); len(b) != 0 || e != want {
		t.Errorf("%s, %d sides: Encode = %s, %d, not %d", when, len(p.Sides), brief(b), e, want)
	}
	if n, e := pack.Size(p); n != 0 || e != want {
		t.Errorf("%s, %d sides: Size = %d, %d, not %d", when, len(p.Sides), n, e, want)
	}
}

// read holds Decode against the proof that it should tell.
func read(t testing.TB, when string, b []byte, want api.Proof) {
	t.Helper()
	if p, e := pack.Decode(b); e != api.OK || !likeProofs(p, want) {
		t.Fatalf("%s: Decode(%s) = %d sides, %v, %d, not %d sides, %v", when, brief(b), len(p.Sides), p.End, e, len(want.Sides), want.End)
	}
}

// unread sees that Decode refuses bytes, and tells nothing else.
func unread(t testing.TB, when string, b []byte) {
	t.Helper()
	if p, e := pack.Decode(b); e != api.ErrBytes || len(p.Sides) != 0 || p.End != (api.Node{}) {
		t.Fatalf("%s: Decode(%s) = %d sides, %v, %d", when, brief(b), len(p.Sides), p.End, e)
	}
}

// asByWords holds Decode of any bytes against the document's words, and tells whether they are a proof's. Of those that are Encode tells them again.
func asByWords(t testing.TB, when string, b []byte) bool {
	t.Helper()
	want, ok := fromBytes(b)
	if !ok {
		unread(t, when, b)
		return false
	}
	read(t, when, b, want)
	p, _ := pack.Decode(b)
	if again := encoded(t, when, p); !bytes.Equal(again, b) {
		t.Fatalf("%s: Encode of what Decode read is %s, not %s", when, brief(again), brief(b))
	}
	return true
}

// chance tells numbers that no pattern is seen in.
type chance uint32

func (c *chance) next() int {
	*c = *c*1664525 + 1013904223
	return int(*c >> 16)
}

// below tells a number from 0 up to, without, n.
func (c *chance) below(n int) int { return c.next() % n }

// bytes tells n bytes.
func (c *chance) bytes(n int) []byte {
	b := make([]byte, n)
	for i := range b {
		b[i] = byte(c.next())
	}
	return b
}

// proof tells a proof that may be, of at most so many sides.
func (c *chance) proof(most int) api.Proof {
	p := api.Proof{Sides: marked(strings.Repeat("1", c.below(most+1)))}
	share := c.below(5)
	for i := range p.Sides {
		if c.below(4) < share {
			p.Sides[i] = empty
		}
	}
	if c.below(3) > 0 {
		p.End = leaf(api.Path(c.bytes(32)), api.Hash(c.bytes(32)))
	}
	return p
}
