package sha_test

import (
	"bytes"
	"strings"
	"testing"

	"rootcellar/api"
	"rootcellar/octet"
	"rootcellar/sha"
)

// The digests that stand here as digits were told by other programs than this one.

const (
	ofNothing = "e3b0c44298fc1c149afbf4c8996fb92427ae41e4649b934ca495991b7852b855"
	ofABC     = "ba7816bf8f01cfea414140de5dae2223b00361a396177a9cb410ff61f20015ad"
	ofNought  = "6e340b9cffb37a989ca544e6bb780a2c78901d3fb33738768511a30617afa01d"
)

// edges are lengths at which what stands behind a text begins, fills or opens a block, with the digests of noise.
var edges = []struct {
	size   int
	digest string
}{
	{0, ofNothing},
	{1, "084fed08b978af4d7d196a7446a86b58009e636b611db16211b65a9aadff29c5"},
	{55, "e7313d333c272e639f790978283f9eb392e843d0f29b7016828bb1daa4aac70b"},
	{56, "4324d65f3c103567f5589c710bc08f8523f929a9272e3af36fc968e52abc6c27"},
	{63, "81c80242132f230c3bd41b3e63bbcff16107339549214a99614ff26664625055"},
	{64, "39e3d7b6b5d075d37d053ad89b24b41bef4f3c29760c84447cab3f3be1882241"},
	{65, "aacca6ff74fdbb296d165a45cecfa04e5127bc008770fbbdd48006f2d2fae95e"},
	{119, "9ce7368e4daf32341631b492e80359dc9f594b48453cd0dd5bf0b19279cc177e"},
	{120, "7836b787757e95e58b3ca5aec90b1b004e8deba1e50e9675af9cabf1a13a04b5"},
	{128, "d2742f1f4ac6bb7ca2b239ee18402ba8b3f9f8e652d2a72973c2b9ba11c08cf6"},
	{183, "80e7b84a99c797730865825b4614ead40b157674e54de7f6b07361f10317b866"},
	{184, "9104901c5fb45016420078acb248323481f2389bc96f790fe692f5a81ca358fe"},
	{1000, "1e9bc38cbf860b9ec31918b065f9b52476c549a782e0e7990bed8ce3868d2371"},
}

// noise is a text of n bytes, no two neighbours alike.
func noise(n int) []byte {
	b := make([]byte, n)
	for i := range b {
		b[i] = byte(7*i + 3)
	}
	return b
}

func digest(h api.Hash) string { return octet.Hex(h[:]) }

func TestExamples(t *testing.T) {
	for _, c := range []struct {
		name, text, want string
	}{
		{"nothing", "", ofNothing},
		{"the bytes abc", "abc", ofABC},
		{"the byte 0", "\x00", ofNought},
	} {
		if got := digest(sha.Sum([]byte(c.text))); got != c.want {
			t.Errorf("Sum of %s = %s", c.name, got)
		}
	}
	s := sha.New()
	if n := s.Write([]byte("ab")); n != 2 {
		t.Errorf("Write(ab) = %d", n)
	}
	if n := s.Write([]byte("c")); n != 1 {
		t.Errorf("Write(c) = %d", n)
	}
	if n := s.Len(); n != 3 {
		t.Errorf("Len = %d", n)
	}
	if got := digest(s.Sum()); got != ofABC {
		t.Errorf("Sum of the state = %s", got)
	}
}

func TestSumAtTheEdges(t *testing.T) {
	for _, e := range edges {
		if got := digest(sha.Sum(noise(e.size))); got != e.digest {
			t.Errorf("Sum of %d bytes = %s", e.size, got)
		}
	}
}

func TestSumOfOtherTexts(t *testing.T) {
	for _, c := range []struct {
		name, text, want string
	}{
		{"one block and its end", "abcdbcdecdefdefgefghfghighijhijkijkljklmklmnlmnomnopnopq", "248d6a61d20638b8e5c026930c3e6039a33ce45964ff2167f6ecedd419db06c1"},
		{"a million bytes a", strings.Repeat("a", 1000000), "cdc76e5c9914fb9281a1c7e284d73e67f1809a48a497200e046d39ccc7112cd0"},
	} {
		if got := digest(sha.Sum([]byte(c.text))); got != c.want {
			t.Errorf("Sum of %s = %s", c.name, got)
		}
	}
	if sha.Sum(nil) != sha.Sum([]byte{}) {
		t.Error("nil and empty are not the same")
	}
}

// Many digests are held against one: that of all of them, one behind the other.
func TestSumOfManyTexts(t *testing.T) {
	var lengths, single []byte
	for n := range 321 {
		h := sha.Sum(noise(n))
		lengths = append(lengths, h[:]...)
	}
	for x := range 256 {
		h := sha.Sum([]byte{byte(x)})
		single = append(single, h[:]...)
	}
	if got := digest(sha.Sum(lengths)); got != "2e03e02d321e289f832fb007f9722807d24ea38ecf7256b7e3ff2731b9d849f0" {
		t.Errorf("texts of 0 to 320 bytes: %s", got)
	}
	if got := digest(sha.Sum(single)); got != "e76b1e82e1189cce0e82735c9940c57419087a2f1872dec78fb5f2778440ef0a" {
		t.Errorf("texts of one byte: %s", got)
	}
}

func TestSumLeavesWhatItWasHanded(t *testing.T) {
	for _, e := range edges {
		whole := noise(e.size + 200)
		if got := digest(sha.Sum(whole[:e.size])); got != e.digest {
			t.Errorf("Sum of %d bytes with room behind them = %s", e.size, got)
		}
		if !bytes.Equal(whole, noise(e.size+200)) {
			t.Errorf("Sum of %d bytes has changed them, or what is behind them", e.size)
		}
	}
}

func TestSumAnswersNewMemory(t *testing.T) {
	h := sha.Sum(nil)
	for i := range h {
		h[i] ^= 255
	}
	if got := digest(sha.Sum(nil)); got != ofNothing {
		t.Errorf("behind a change of an answer: %s", got)
	}
}

func start() [8]uint32 {
	return [8]uint32{0x6a09e667, 0xbb67ae85, 0x3c6ef372, 0xa54ff53a, 0x510e527f, 0x9b05688c, 0x1f83d9ab, 0x5be0cd19}
}

func allWords(x uint32) [8]uint32 { return [8]uint32{x, x, x, x, x, x, x, x} }

func allBytes(x byte) [64]byte { return [64]byte(bytes.Repeat([]byte{x}, 64)) }

func TestStep(t *testing.T) {
	const most = 1<<32 - 1
	abc := [64]byte{'a', 'b', 'c', 128}
	abc[63] = 24
	for _, c := range []struct {
		name string
		h    [8]uint32
		b    [64]byte
		want [8]uint32
	}{
		{"abc's only block", start(), abc, [8]uint32{0xba7816bf, 0x8f01cfea, 0x414140de, 0x5dae2223, 0xb00361a3, 0x96177a9c, 0xb410ff61, 0xf20015ad}},
		{"noughts from the first words", start(), [64]byte{}, [8]uint32{0xda5698be, 0x17b9b469, 0x62335799, 0x779fbeca, 0x8ce5d491, 0xc0d26243, 0xbafef9ea, 0x1837a9d8}},
		{"all 0", [8]uint32{}, [64]byte{}, [8]uint32{0x7ca51614, 0x425c3ba8, 0xce54dd2f, 0xc2020ae7, 0xb6e574d1, 0x98136d0f, 0xae7e26cc, 0xbf0be7a6}},
		{"all 1", allWords(most), allBytes(255), [8]uint32{0x0598127a, 0xaf11706e, 0x77401fff, 0xd730c549, 0x0b84c867, 0xa98c6ca3, 0xd7f3c0f9, 0x06a78b79}},
		{"words 0, bytes 1", [8]uint32{}, allBytes(255), [8]uint32{0x5081b30e, 0xfa9924a2, 0x8412d8aa, 0x28bb0c93, 0xda147a5a, 0xd8e1f92b, 0x5af1210d, 0x57081603}},
		{"words 1, bytes 0", allWords(most), [64]byte{}, [8]uint32{0x25260809, 0x56c94ba8, 0xe7d6dd48, 0x222df1d3, 0xf914c4b0, 0xb823beb6, 0xe8cebb7a, 0xddcdff59}},
	} {
		if got := sha.Step(c.h, c.b); got != c.want {
			t.Errorf("%s: %08x", c.name, got)
		}
	}
}

// A thousand steps from words and blocks that no text would bring about.
func TestStepBehindStep(t *testing.T) {
	var h [8]uint32
	var b [64]byte
	for n := range 1000 {
		h = sha.Step(h, b)
		b[n%64] ^= byte(h[n%8] >> (n % 25))
	}
	want := [8]uint32{0xb98be717, 0xa55a35c4, 0xf3f9da93, 0x114895f5, 0xf2385127, 0xf01e263a, 0x3d6882fb, 0x1c1c01fb}
	if h != want {
		t.Errorf("%08x", h)
	}
}

// told does by Step what the chapter says of the digest of a text.
func told(text []byte) string {
	whole := append(bytes.Clone(text), 128)
	for len(whole)%64 != 56 {
		whole = append(whole, 0)
	}
	bits := 8 * len(text)
	whole = append(whole, 0, 0, 0, 0, byte(bits>>24), byte(bits>>16), byte(bits>>8), byte(bits))
	h := start()
	for ; len(whole) > 0; whole = whole[64:] {
		h = sha.Step(h, [64]byte(whole))
	}
	var digits string
	for _, w := range h {
		digits += octet.Hex([]byte{byte(w >> 24), byte(w >> 16), byte(w >> 8), byte(w)})
	}
	return digits
}

func TestStepsMakeTheDigest(t *testing.T) {
	for n := range 260 {
		if got := digest(sha.Sum(noise(n))); got != told(noise(n)) {
			t.Errorf("Sum of %d bytes = %s, by steps %s", n, got, told(noise(n)))
		}
	}
}
