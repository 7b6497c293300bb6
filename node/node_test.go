package node_test

import (
	"bytes"
	"testing"

	"rootcellar/api"
	"rootcellar/node"
	"rootcellar/octet"
	"rootcellar/sha"
	"rootcellar/tag"
)

// The digests that stand in these tests as digits were told by other programs than this one.

const (
	ofNothing  = "6e340b9cffb37a989ca544e6bb780a2c78901d3fb33738768511a30617afa01d"
	ofZeroLeaf = "60c236824c44243ccea3a2b8c04fa7776725a4d8b02d54ee7484e434329a008a"
	ofTwoEmpty = "08275fa3607b9fbefda10a3972b9f05f7c1bc392d1d68f5fd9d58ac9ff384cba"
)

// The keys of the document's examples.
var (
	keyZ = api.Path{}
	keyO = api.Path{31: 1}
	keyX = api.Path{0: 64}
	keyY = api.Path{0: 128}
)

// noise is a text of n bytes, no two neighbours alike.
func noise(n int) []byte {
	b := make([]byte, n)
	for i := range b {
		b[i] = byte(7*i + 3)
	}
	return b
}

// rising tells 32 bytes from a first one on.
func rising(from byte) (b [32]byte) {
	for i := range b {
		b[i] = from + byte(i)
	}
	return b
}

// scribble writes over a text and its spare room, so that whatever shares either shows it.
func scribble(b []byte) {
	b = b[:cap(b)]
	for i := range b {
		b[i] ^= 0xee
	}
}

func leaf(key api.Path, value api.Hash) api.Node {
	return api.Node{Kind: api.Leaf, Key: key, Value: value}
}

func inner(left, right api.Hash) api.Node {
	return api.Node{Kind: api.Inner, Left: left, Right: right}
}

// good are nodes that may be, and the texts that the chapter says they have.
func good() map[string]api.Node {
	k, a, b := rising(1), rising(100), rising(200)
	full := [32]byte(bytes.Repeat([]byte{255}, 32))
	zero := make([]byte, 32)
	text := func(t byte, parts ...[]byte) string { return string(append([]byte{t}, bytes.Join(parts, nil)...)) }
	return map[string]api.Node{
		text(0):                   {},
		text(1, k[:], a[:]):       leaf(k, a),
		text(1, zero, zero):       {Kind: api.Leaf},
		text(1, zero, b[:]):       leaf(api.Path{}, b),
		text(1, k[:], zero):       leaf(k, api.Hash{}),
		text(1, full[:], full[:]): leaf(full, full),
		text(2, a[:], b[:]):       inner(a, b),
		text(2, b[:], a[:]):       inner(b, a),
		text(2, zero, zero):       {Kind: api.Inner},
		text(2, zero, b[:]):       inner(api.Hash{}, b),
		text(2, a[:], zero):       inner(a, api.Hash{}),
		text(2, full[:], full[:]): inner(full, full),
	}
}

// each calls f with n, one bit of one of its fields turned.
func each(n api.Node, f func(field string, m api.Node)) {
	for _, i := range []int{0, 1, 15, 16, 30, 31} {
		for _, x := range []byte{1, 128} {
			m := n
			m.Key[i] ^= x
			f("Key", m)
			m = n
			m.Value[i] ^= x
			f("Value", m)
			m = n
			m.Left[i] ^= x
			f("Left", m)
			m = n
			m.Right[i] ^= x
			f("Right", m)
		}
	}
}

// refused holds all calls that a node is handed to against one that may not be.
func refused(t *testing.T, n api.Node) {
	t.Helper()
	if e := node.Check(n); e != api.ErrArg {
		t.Errorf("Check(%v) = %d", n, e)
	}
	if h, e := node.Digest(n); e != api.ErrArg || h != (api.Hash{}) {
		t.Errorf("Digest(%v) = %x, %d", n, h, e)
	}
	if b, e := node.Encode(n); e != api.ErrArg || len(b) != 0 {
		t.Errorf("Encode(%v) = %x, %d", n, b, e)
	}
	if h, e := node.Up(keyY, api.Proof{End: n}); e != api.ErrArg || h != (api.Hash{}) {
		t.Errorf("Up of the end %v = %x, %d", n, h, e)
	}
}

func TestExamplesOfNodes(t *testing.T) {
	v := tag.Value(nil)
	if b, e := node.Encode(api.Node{}); e != api.OK || !bytes.Equal(b, []byte{0}) {
		t.Errorf("Encode of {} = %x, %d", b, e)
	}
	if h, e := node.Digest(api.Node{}); e != api.OK || octet.Hex(h[:]) != ofNothing {
		t.Errorf("Digest of {} = %x, %d", h, e)
	}
	for _, n := range []api.Node{{Kind: 3}, {Key: keyY}, {Kind: api.Inner, Value: v}} {
		refused(t, n)
	}
	for _, b := range [][]byte{nil, {1}, bytes.Repeat([]byte{3}, 65)} {
		unread(t, b)
	}
}

func TestNodesThatMayBe(t *testing.T) {
	for text, n := range good() {
		if e := node.Check(n); e != api.OK {
			t.Errorf("Check(%v) = %d", n, e)
		}
		b, e := node.Encode(n)
		if e != api.OK || string(b) != text {
			t.Errorf("Encode(%v) = %x, %d", n, b, e)
		}
		if h, e := node.Digest(n); e != api.OK || h != sha.Sum([]byte(text)) {
			t.Errorf("Digest(%v) = %x, %d", n, h, e)
		}
		if m, e := node.Decode([]byte(text)); e != api.OK || m != n {
			t.Errorf("Decode(%x) = %v, %d", text, m, e)
		}
	}
}

func TestDigestsToldElsewhere(t *testing.T) {
	e := tag.Empty()
	for want, n := range map[string]api.Node{
		ofNothing:  {},
		ofZeroLeaf: leaf(keyZ, tag.Value(nil)),
		ofTwoEmpty: inner(e, e),
	} {
		if h, _ := node.Digest(n); octet.Hex(h[:]) != want {
			t.Errorf("Digest(%v) = %x", n, h)
		}
	}
}

// A field may be anything just if its kind has it.
func TestFieldsOfKinds(t *testing.T) {
	has := map[api.Kind]string{api.Empty: "", api.Leaf: "Key Value", api.Inner: "Left Right"}
	for _, n := range good() {
		each(n, func(field string, m api.Node) {
			if bytes.Contains([]byte(has[n.Kind]), []byte(field)) {
				if e := node.Check(m); e != api.OK {
					t.Errorf("Check(%v) = %d", m, e)
				}
				return
			}
			refused(t, m)
		})
	}
}

func TestKindsThatAreNone(t *testing.T) {
	for k := 3; k < 256; k++ {
		refused(t, api.Node{Kind: api.Kind(k)})
		for _, n := range good() {
			n.Kind = api.Kind(k)
			refused(t, n)
		}
	}
}

// A node whose fields are another kind's may not be, but for the one without any.
func TestKindsOfOtherFields(t *testing.T) {
	for _, n := range good() {
		for _, k := range []api.Kind{api.Empty, api.Leaf, api.Inner} {
			m := n
			m.Kind = k
			if bare := m == (api.Node{Kind: k}); k != n.Kind && !bare {
				refused(t, m)
			}
		}
	}
}

func unread(t *testing.T, b []byte) {
	t.Helper()
	if n, e := node.Decode(b); e != api.ErrBytes || n != (api.Node{}) {
		t.Errorf("Decode(%x) = %v, %d", b, n, e)
	}
}

// Every first byte at every length: just three pairs are of texts.
func TestDecodeLengthsAndFirstBytes(t *testing.T) {
	unread(t, nil)
	unread(t, []byte{})
	for length := 1; length <= 131; length++ {
		for first := range 256 {
			b := noise(length)
			b[0] = byte(first)
			text := length == 1 && first == 0 || length == 65 && (first == 1 || first == 2)
			if !text {
				unread(t, b)
				continue
			}
			n, e := node.Decode(b)
			if e != api.OK || n.Kind != api.Kind(first) {
				t.Errorf("Decode of %d bytes from %d on = %v, %d", length, first, n, e)
			}
			if again, e := node.Encode(n); e != api.OK || !bytes.Equal(again, b) {
				t.Errorf("Encode of what Decode reads = %x, %d, not %x", again, e, b)
			}
		}
	}
	unread(t, make([]byte, 1<<20))
}

// What lies in a text's spare room is none of it.
func TestDecodeReadsNoSpareRoom(t *testing.T) {
	for _, first := range []byte{1, 2} {
		b := noise(65)
		b[0] = first
		unread(t, b[:64:65])
		unread(t, b[:1:65])
		unread(t, b[:0:65])
	}
	long := append([]byte{0}, noise(64)...)
	if n, e := node.Decode(long[:1]); e != api.OK || n != (api.Node{}) {
		t.Errorf("Decode of 0, ahead of other bytes = %v, %d", n, e)
	}
}

func TestDecodeKeepsNothing(t *testing.T) {
	for text := range good() {
		b := append([]byte(text), noise(9)...)
		want := bytes.Clone(b)
		n, _ := node.Decode(b[:len(text)])
		if !bytes.Equal(b, want) {
			t.Errorf("Decode changed %x to %x", want, b)
		}
		before := n
		scribble(b)
		if n != before {
			t.Errorf("Decode kept %x", text)
		}
	}
}

func TestEncodeIsNewMemory(t *testing.T) {
	for text, n := range good() {
		one, _ := node.Encode(n)
		two, _ := node.Encode(n)
		scribble(one)
		if string(two) != text {
			t.Errorf("one text of %v shares memory with another one", n)
		}
		if three, _ := node.Encode(n); string(three) != text {
			t.Errorf("Encode(%v) keeps what it answered", n)
		}
	}
}

func FuzzDecode(f *testing.F) {
	for text := range good() {
		f.Add([]byte(text))
		f.Add([]byte(text)[1:])
		f.Add(append([]byte(text), 0))
	}
	f.Fuzz(func(t *testing.T, b []byte) {
		n, e := node.Decode(b)
		if e != api.OK {
			unread(t, b)
			return
		}
		again, e := node.Encode(n)
		if e != api.OK || !bytes.Equal(again, b) || node.Check(n) != api.OK {
			t.Errorf("Encode of what Decode reads of %x = %x, %d", b, again, e)
		}
		if h, e := node.Digest(n); e != api.OK || h != sha.Sum(b) {
			t.Errorf("Digest of what Decode reads of %x = %x, %d", b, h, e)
		}
	})
}
