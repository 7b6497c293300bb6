package extract_test

import (
	"bytes"
	"fmt"
	"slices"
	"strconv"
	"strings"
	"testing"

	"rootcellar/api"
	"rootcellar/extract"
	"rootcellar/octet"
	"rootcellar/sha"
	"rootcellar/verify"
)

// The keys of the document's examples, and the last key of all.
var (
	keyZ = api.Path{}
	keyO = api.Path{31: 1}
	keyX = api.Path{0: 64}
	keyY = api.Path{0: 128}
	keyN = api.Path(bytes.Repeat([]byte{255}, 32))
)

// empty is the empty digest, read from the document and not told by tag.
var empty = api.Hash(unhex("6e340b9cffb37a989ca544e6bb780a2c78901d3fb33738768511a30617afa01d"))

// The values at the edge: as long as may be, and one byte longer.
var (
	longest = some(1024)
	tooLong = some(1025)
)

func unhex(digits string) []byte {
	b, _ := octet.Unhex(digits)
	return b
}

// some tells n bytes that are not all alike.
func some(n int) []byte {
	b := make([]byte, n)
	for i := range b {
		b[i] = byte(7*i + 1)
	}
	return b
}

// digest tells a digest that is no other one's here.
func digest(i int) api.Hash { return sha.Sum([]byte{77, byte(i), byte(i >> 8), byte(i >> 16)}) }

// scattered keys are digests.
func scattered(i int) api.Path { return api.Path(sha.Sum([]byte{byte(i), byte(i >> 8)})) }

// flip turns one of 256 bits.
func flip(b [32]byte, d int) [32]byte {
	b[d/8] ^= 1 << (7 - d%8)
	return b
}

// digits tells a key's bits, each as a 0 or a 1.
func digits(k api.Path) string {
	var b strings.Builder
	for _, x := range k {
		fmt.Fprintf(&b, "%08b", x)
	}
	return b.String()
}

// The digests, in the document's words.
func valueOf(v []byte) api.Hash                    { return sha.Sum(append([]byte{3}, v...)) }
func leafOf(key api.Path, value api.Hash) api.Hash { return sha.Sum(leafText(key, value)) }
func innerOf(left, right api.Hash) api.Hash        { return sha.Sum(innerText(left, right)) }
func leafText(key api.Path, value api.Hash) []byte { return slices.Concat([]byte{1}, key[:], value[:]) }
func innerText(left, right api.Hash) []byte {
	return slices.Concat([]byte{2}, left[:], right[:])
}

func leaf(key api.Path, value api.Hash) api.Node {
	return api.Node{Kind: api.Leaf, Key: key, Value: value}
}

// sides tells n of them, no two alike, none the empty digest.
func sides(n int) []api.Hash {
	l := make([]api.Hash, n)
	for i := range l {
		l[i] = digest(i)
	}
	return l
}

// empties tells n sides that are the empty digest.
func empties(n int) []api.Hash { return slices.Repeat([]api.Hash{empty}, n) }

// mixed tells n sides, every third of which is the empty digest.
func mixed(n int) []api.Hash {
	l := sides(n)
	for i := 0; i < n; i += 3 {
		l[i] = empty
	}
	return l
}

// numbers are how many sides there are, where something may go otherwise.
var numbers = []int{0, 1, 2, 3, 7, 8, 9, 15, 16, 17, 63, 64, 65, 127, 128, 129, 247, 248, 249, 254, 255, 256}

// packed tells the bytes of a proof whose end is nothing or a leaf, in the document's words.
func packed(l []api.Hash, end api.Node) []byte {
	var bits strings.Builder
	var written []byte
	for _, side := range l {
		if side == empty {
			bits.WriteByte('0')
			continue
		}
		bits.WriteByte('1')
		written = append(written, side[:]...)
	}
	for bits.Len()%8 != 0 {
		bits.WriteByte('0')
	}
	b := []byte{byte(len(l) / 256), byte(len(l) % 256)}
	for s := bits.String(); s != ""; s = s[8:] {
		x, _ := strconv.ParseUint(s[:8], 2, 8)
		b = append(b, byte(x))
	}
	b = append(b, written...)
	if end.Kind == api.Empty {
		return append(b, 0)
	}
	return append(b, leafText(end.Key, end.Value)...)
}

// unpacked tells the proof whose bytes these are, in the document's words: it reads them as if they were right, and sees whether the words tell them again.
func unpacked(b []byte) (p api.Proof, ok bool) {
	if len(b) < 2 {
		return p, false
	}
	n, rest := int(b[0])*256+int(b[1]), b[2:]
	if n > 256 || len(rest) < (n+7)/8 {
		return p, false
	}
	var bits string
	for _, x := range rest[:(n+7)/8] {
		bits += fmt.Sprintf("%08b", x)
	}
	rest = rest[(n+7)/8:]
	for _, c := range bits[:n] {
		if c == '0' {
			p.Sides = append(p.Sides, empty)
			continue
		}
		if len(rest) < 32 {
			return p, false
		}
		p.Sides = append(p.Sides, api.Hash(rest[:32]))
		rest = rest[32:]
	}
	if len(rest) == 65 && rest[0] == 1 {
		p.End = leaf(api.Path(rest[1:33]), api.Hash(rest[33:]))
	}
	return p, bytes.Equal(packed(p.Sides, p.End), b)
}

// textsOf tells the texts of a proof from the top on, in the document's words: each names the digest of all that is below it.
func textsOf(bits string, l []api.Hash, end api.Node) [][]byte {
	if len(l) == 0 {
		if end.Kind == api.Empty {
			return [][]byte{{0}}
		}
		return [][]byte{leafText(end.Key, end.Value)}
	}
	below := textsOf(bits[1:], l[1:], end)
	own, side := sha.Sum(below[0]), l[0]
	if bits[0] == '0' {
		return append([][]byte{innerText(own, side)}, below...)
	}
	return append([][]byte{innerText(side, own)}, below...)
}

// textsByWords tells what Texts should answer, in the document's words.
func textsByWords(key api.Path, b []byte) ([][]byte, api.Errno) {
	p, ok := unpacked(b)
	if !ok {
		return nil, api.ErrBytes
	}
	return textsOf(digits(key), p.Sides, p.End), api.OK
}

// partByWords tells what Part should answer, in the document's words.
func partByWords(key api.Path, p, q []byte) (api.Clash, int, api.Errno) {
	one, e := textsByWords(key, p)
	two, f := textsByWords(key, q)
	if e != api.OK || f != api.OK {
		return api.Clash{}, 0, api.ErrBytes
	}
	for d := 0; d < len(one) && d < len(two); d++ {
		if !bytes.Equal(one[d], two[d]) {
			return api.Clash{One: one[d], Two: two[d]}, d, api.OK
		}
	}
	return api.Clash{}, -1, api.OK
}

// brief tells bytes for a message, the midst of many left out.
func brief(b []byte) string {
	if len(b) <= 120 {
		return fmt.Sprintf("%x", b)
	}
	return fmt.Sprintf("%x..%x (%d bytes)", b[:60], b[len(b)-60:], len(b))
}

// same tells whether two lists have the same texts.
func same(one, two [][]byte) bool { return slices.EqualFunc(one, two, bytes.Equal) }

// isClash tells whether two pairs of texts are the same.
func isClash(c, d api.Clash) bool { return bytes.Equal(c.One, d.One) && bytes.Equal(c.Two, d.Two) }

// texts holds Texts against what it should answer.
func texts(t testing.TB, when string, key api.Path, b []byte, want [][]byte) {
	t.Helper()
	l, e := extract.Texts(key, b)
	if e != api.OK || len(l) != len(want) {
		t.Fatalf("%s: Texts(%x, %s) = %d texts, %d, not %d", when, key, brief(b), len(l), e, len(want))
	}
	for d := range want {
		if !bytes.Equal(l[d], want[d]) {
			t.Fatalf("%s: Texts(%x, %s) has at %d %x, not %x", when, key, brief(b), d, l[d], want[d])
		}
	}
}

// parts holds Part against what it should answer, both ways round.
func parts(t testing.TB, when string, key api.Path, p, q []byte, want api.Clash, wantD int) {
	t.Helper()
	if c, d, e := extract.Part(key, p, q); !isClash(c, want) || d != wantD || e != api.OK {
		t.Fatalf("%s: Part(%x, %s, %s) = %x, %x at %d, %d, not %x, %x at %d", when, key, brief(p), brief(q), c.One, c.Two, d, e, want.One, want.Two, wantD)
	}
	if c, d, e := extract.Part(key, q, p); !bytes.Equal(c.One, want.Two) || !bytes.Equal(c.Two, want.One) || d != wantD || e != api.OK {
		t.Fatalf("%s: the other way round Part(%x, %s, %s) = %x, %x at %d, %d", when, key, brief(q), brief(p), c.One, c.Two, d, e)
	}
}

// unread sees that bytes which are no proof's are refused, whatever key is told: by Texts, and by Part in the first place, in the second and in both. Where they stand with others, these are right ones.
func unread(t testing.TB, when string, b []byte) {
	t.Helper()
	for _, key := range []api.Path{keyZ, keyN} {
		if l, e := extract.Texts(key, b); l != nil || e != api.ErrBytes {
			t.Fatalf("%s: Texts(%x, %s) = %x, %d", when, key, brief(b), l, e)
		}
		for _, right := range [][]byte{{0, 0, 0}, packed(mixed(3), leaf(key, digest(1)))} {
			refuses(t, when+", ahead", key, b, right)
			refuses(t, when+", behind", key, right, b)
		}
		refuses(t, when+", both", key, b, b)
	}
}

// refuses sees that Part refuses bytes, and tells nothing else.
func refuses(t testing.TB, when string, key api.Path, p, q []byte) {
	t.Helper()
	if c, d, e := extract.Part(key, p, q); c.One != nil || c.Two != nil || d != 0 || e != api.ErrBytes {
		t.Fatalf("%s: Part(%x, %s, %s) = %x, %x at %d, %d", when, key, brief(p), brief(q), c.One, c.Two, d, e)
	}
}

// noClash sees that two claims hand out nothing, both ways round.
func noClash(t testing.TB, when string, root api.Hash, key api.Path, one, two api.Claim) {
	t.Helper()
	for _, l := range [][2]api.Claim{{one, two}, {two, one}} {
		if c, ok := extract.Clash(root, key, l[0], l[1]); ok || c.One != nil || c.Two != nil {
			t.Fatalf("%s: Clash(%x, %x, %s, %s) = %x, %x, %t", when, root, key, said(l[0]), said(l[1]), c.One, c.Two, ok)
		}
	}
}

// said tells a claim for a message.
func said(c api.Claim) string {
	return fmt.Sprintf("{%t, %s, %s}", c.There, brief(c.Value), brief(c.Bytes))
}

// chained sees that each text but the first one has the digest that the text ahead of it names on the key's side, and the first one the digest that verify tells at the top.
func chained(t testing.TB, when string, key api.Path, b []byte) {
	t.Helper()
	l, e := extract.Texts(key, b)
	top, f := verify.Top(key, b)
	if e != api.OK || f != api.OK || len(l) != 256*int(b[0])+int(b[1])+1 {
		t.Fatalf("%s: Texts(%x, %s) = %d texts, %d, and Top = %d", when, key, brief(b), len(l), e, f)
	}
	want, bits := top, digits(key)
	for d, text := range l {
		if h := sha.Sum(text); h != want {
			t.Fatalf("%s: Texts(%x, %s) has at %d a text of the digest %x, not %x", when, key, brief(b), d, h, want)
		}
		if d == len(l)-1 {
			continue
		}
		if len(text) != 65 || text[0] != 2 {
			t.Fatalf("%s: Texts(%x, %s) has at %d %x", when, key, brief(b), d, text)
		}
		if bits[d] == '0' {
			want = api.Hash(text[1:33])
		} else {
			want = api.Hash(text[33:])
		}
	}
}

// chance tells numbers that no pattern is seen in.
type chance uint32

func (c *chance) next() int {
	*c = *c*1664525 + 1013904223
	return int(*c >> 16)
}

// below tells a number from 0 up to, without, n.
func (c *chance) below(n int) int { return c.next() % n }
