package verify_test

import (
	"bytes"
	"fmt"
	"slices"
	"strconv"
	"strings"
	"testing"

	"rootcellar/api"
	"rootcellar/octet"
	"rootcellar/sha"
	"rootcellar/verify"
)

// The keys of the document's examples, and the last key of all.
var (
	keyZ = api.Path{}
	keyO = api.Path{31: 1}
	keyX = api.Path{0: 64}
	keyY = api.Path{0: 128}
	keyN = api.Path(bytes.Repeat([]byte{255}, 32))
)

// empty is the empty digest, read from the document and not told by tag.
var empty = api.Hash(unhex("6e340b9cffb37a989ca544e6bb780a2c78901d3fb33738768511a30617afa01d"))

// The values at the edge: as long as may be, and one byte longer.
var (
	longest = some(1024)
	tooLong = some(1025)
)

func unhex(digits string) []byte {
	b, _ := octet.Unhex(digits)
	return b
}

// some tells n bytes that are not all alike.
func some(n int) []byte {
	b := make([]byte, n)
	for i := range b {
		b[i] = byte(7*i + 1)
	}
	return b
}

// digest tells a digest that is no other one's here.
func digest(i int) api.Hash { return sha.Sum([]byte{77, byte(i), byte(i >> 8), byte(i >> 16)}) }

// scattered keys are digests.
func scattered(i int) api.Path { return api.Path(sha.Sum([]byte{byte(i), byte(i >> 8)})) }

// flip turns one of 256 bits.
func flip(b [32]byte, d int) [32]byte {
	b[d/8] ^= 1 << (7 - d%8)
	return b
}

// digits tells a key's bits, each as a 0 or a 1.
func digits(k api.Path) string {
	var b strings.Builder
	for _, x := range k {
		fmt.Fprintf(&b, "%08b", x)
	}
	return b.String()
}

// The digests, in the document's words.
func valueOf(v []byte) api.Hash                    { return sha.Sum(append([]byte{3}, v...)) }
func leafOf(key api.Path, value api.Hash) api.Hash { return sha.Sum(leafText(key, value)) }
func innerOf(left, right api.Hash) api.Hash {
	return sha.Sum(slices.Concat([]byte{2}, left[:], right[:]))
}
func leafText(key api.Path, value api.Hash) []byte { return slices.Concat([]byte{1}, key[:], value[:]) }

func leaf(key api.Path, value api.Hash) api.Node {
	return api.Node{Kind: api.Leaf, Key: key, Value: value}
}

// sides tells n of them, no two alike, none the empty digest.
func sides(n int) []api.Hash {
	l := make([]api.Hash, n)
	for i := range l {
		l[i] = digest(i)
	}
	return l
}

// empties tells n sides that are the empty digest.
func empties(n int) []api.Hash { return slices.Repeat([]api.Hash{empty}, n) }

// mixed tells n sides, every third of which is the empty digest.
func mixed(n int) []api.Hash {
	l := sides(n)
	for i := 0; i < n; i += 3 {
		l[i] = empty
	}
	return l
}

// numbers are how many sides there are, where something may go otherwise.
var numbers = []int{0, 1, 2, 3, 7, 8, 9, 15, 16, 17, 63, 64, 65, 127, 128, 129, 247, 248, 249, 254, 255, 256}

// packed tells the bytes of a proof whose end is nothing or a leaf, in the document's words.
func packed(l []api.Hash, end api.Node) []byte {
	var bits strings.Builder
	var written []byte
	for _, side := range l {
		if side == empty {
			bits.WriteByte('0')
			continue
		}
		bits.WriteByte('1')
		written = append(written, side[:]...)
	}
	for bits.Len()%8 != 0 {
		bits.WriteByte('0')
	}
	b := []byte{byte(len(l) / 256), byte(len(l) % 256)}
	for s := bits.String(); s != ""; s = s[8:] {
		x, _ := strconv.ParseUint(s[:8], 2, 8)
		b = append(b, byte(x))
	}
	b = append(b, written...)
	if end.Kind == api.Empty {
		return append(b, 0)
	}
	return append(b, leafText(end.Key, end.Value)...)
}

// unpacked tells the proof whose bytes these are, in the document's words: it reads them as if they were right, and sees whether the words tell them again.
func unpacked(b []byte) (p api.Proof, ok bool) {
	if len(b) < 2 {
		return p, false
	}
	n, rest := int(b[0])*256+int(b[1]), b[2:]
	if n > 256 || len(rest) < (n+7)/8 {
		return p, false
	}
	var bits string
	for _, x := range rest[:(n+7)/8] {
		bits += fmt.Sprintf("%08b", x)
	}
	rest = rest[(n+7)/8:]
	for _, c := range bits[:n] {
		if c == '0' {
			p.Sides = append(p.Sides, empty)
			continue
		}
		if len(rest) < 32 {
			return p, false
		}
		p.Sides = append(p.Sides, api.Hash(rest[:32]))
		rest = rest[32:]
	}
	if len(rest) == 65 && rest[0] == 1 {
		p.End = leaf(api.Path(rest[1:33]), api.Hash(rest[33:]))
	}
	return p, bytes.Equal(packed(p.Sides, p.End), b)
}

// up tells the digest at the top of a proof whose end is nothing or a leaf, in the document's words.
func up(key api.Path, p api.Proof) api.Hash {
	h := empty
	if p.End.Kind == api.Leaf {
		h = leafOf(p.End.Key, p.End.Value)
	}
	bits := digits(key)
	for d := len(p.Sides) - 1; d >= 0; d-- {
		if bits[d] == '0' {
			h = innerOf(h, p.Sides[d])
		} else {
			h = innerOf(p.Sides[d], h)
		}
	}
	return h
}

// topByWords tells what Top should answer, in the document's words.
func topByWords(key api.Path, b []byte) (api.Hash, api.Errno) {
	p, ok := unpacked(b)
	if !ok {
		return api.Hash{}, api.ErrBytes
	}
	return up(key, p), api.OK
}

// readByWords tells what Read should answer, in the document's words.
func readByWords(root api.Hash, key api.Path, b []byte) (api.Said, api.Errno) {
	p, ok := unpacked(b)
	isLeaf := p.End.Kind == api.Leaf
	switch {
	case !ok:
		return api.Said{}, api.ErrBytes
	case up(key, p) != root:
		return api.Said{}, api.ErrFalse
	case isLeaf && p.End.Key == key:
		return api.Said{There: true, Value: p.End.Value}, api.OK
	case isLeaf && !strings.HasPrefix(digits(p.End.Key), digits(key)[:len(p.Sides)]):
		return api.Said{}, api.ErrFalse
	}
	return api.Said{}, api.OK
}

// brief tells bytes for a message, the midst of many left out.
func brief(b []byte) string {
	if len(b) <= 120 {
		return fmt.Sprintf("%x", b)
	}
	return fmt.Sprintf("%x..%x (%d bytes)", b[:60], b[len(b)-60:], len(b))
}

// reads holds Read against what it should answer, and Present and Absent beside it: with no value, with short ones, with the longest and one that is too long.
func reads(t testing.TB, when string, root api.Hash, key api.Path, b []byte, want api.Said, wantE api.Errno) {
	t.Helper()
	if said, e := verify.Read(root, key, b); said != want || e != wantE {
		t.Fatalf("%s: Read(%x, %x, %s) = %v, %d, not %v, %d", when, root, key, brief(b), said, e, want, wantE)
	}
	if ok := verify.Absent(root, key, b); ok != (wantE == api.OK && !want.There) {
		t.Fatalf("%s: Absent(%x, %x, %s) = %t", when, root, key, brief(b), ok)
	}
	for _, v := range [][]byte{nil, {0}, []byte("A"), []byte("B"), longest, tooLong} {
		if ok := verify.Present(root, key, v, b); ok != (wantE == api.OK && want.There && len(v) <= 1024 && want.Value == valueOf(v)) {
			t.Fatalf("%s: Present(%x, %x, %s, %s) = %t", when, root, key, brief(v), brief(b), ok)
		}
	}
}

// tops holds Top against what it should answer.
func tops(t testing.TB, when string, key api.Path, b []byte, want api.Hash, wantE api.Errno) {
	t.Helper()
	if h, e := verify.Top(key, b); h != want || e != wantE {
		t.Fatalf("%s: Top(%x, %s) = %x, %d, not %x, %d", when, key, brief(b), h, e, want, wantE)
	}
}

// there sees that bytes are accepted, and say that a key is there with a value.
func there(t testing.TB, when string, root api.Hash, key api.Path, value, b []byte) {
	t.Helper()
	reads(t, when, root, key, b, api.Said{There: true, Value: valueOf(value)}, api.OK)
	tops(t, when, key, b, root, api.OK)
	if ok := verify.Present(root, key, value, b); ok != (len(value) <= 1024) {
		t.Fatalf("%s: Present(%x, %x, %s, %s) = %t", when, root, key, brief(value), brief(b), ok)
	}
	wrong := append(slices.Clone(value), 0)
	if verify.Present(root, key, wrong, b) || len(value) > 0 && verify.Present(root, key, value[:len(value)-1], b) {
		t.Fatalf("%s: Present(%x, %x) of a wrong value is true", when, root, key)
	}
}

// absent sees that bytes are accepted, and say that a key is absent.
func absent(t testing.TB, when string, root api.Hash, key api.Path, b []byte) {
	t.Helper()
	reads(t, when, root, key, b, api.Said{}, api.OK)
	tops(t, when, key, b, root, api.OK)
}

// untrue sees that bytes which are a proof's are not accepted.
func untrue(t testing.TB, when string, root api.Hash, key api.Path, b []byte) {
	t.Helper()
	reads(t, when, root, key, b, api.Said{}, api.ErrFalse)
	if h, e := verify.Top(key, b); h == (api.Hash{}) || e != api.OK {
		t.Fatalf("%s: Top(%x, %s) = %x, %d", when, key, brief(b), h, e)
	}
}

// unread sees that bytes are no proof's, whatever key and root are told: the digest that the bytes lead up to otherwise among them.
func unread(t testing.TB, when string, b []byte, roots ...api.Hash) {
	t.Helper()
	for _, key := range []api.Path{keyZ, keyY, keyN} {
		for _, root := range append(roots, empty, api.Hash{}, digest(1)) {
			reads(t, when, root, key, b, api.Said{}, api.ErrBytes)
		}
		tops(t, when, key, b, api.Hash{}, api.ErrBytes)
	}
}

// nowhereElse sees that bytes are accepted under no other root than one, and none of the others is told at the top.
func nowhereElse(t testing.TB, when string, root api.Hash, key api.Path, b []byte, others ...api.Hash) {
	t.Helper()
	others = append(others, empty, api.Hash{}, digest(1), api.Hash(key), valueOf(nil))
	for d := 0; d < 256; d += 17 { // the first bit and the last, and each place in a byte
		others = append(others, flip(root, d))
	}
	for _, other := range others {
		if said, e := verify.Read(other, key, b); other != root && (said != api.Said{} || e != api.ErrFalse) {
			t.Fatalf("%s: Read(%x, %x, %s) = %v, %d, though the root is %x", when, other, key, brief(b), said, e, root)
		}
	}
}

// byWords holds all calls of any bytes against the document's words: under their own top, and under a root that is handed in.
func byWords(t testing.TB, when string, root api.Hash, key api.Path, b []byte) {
	t.Helper()
	top, e := topByWords(key, b)
	tops(t, when, key, b, top, e)
	for _, r := range []api.Hash{root, top} {
		want, e := readByWords(r, key, b)
		reads(t, when, r, key, b, want, e)
	}
}

// chance tells numbers that no pattern is seen in.
type chance uint32

func (c *chance) next() int {
	*c = *c*1664525 + 1013904223
	return int(*c >> 16)
}

// below tells a number from 0 up to, without, n.
func (c *chance) below(n int) int { return c.next() % n }

// bytes tells n bytes.
func (c *chance) bytes(n int) []byte {
	b := make([]byte, n)
	for i := range b {
		b[i] = byte(c.next())
	}
	return b
}
