package tag_test

import (
	"bytes"
	"strings"
	"testing"

	"rootcellar/api"
	"rootcellar/octet"
	"rootcellar/sha"
	"rootcellar/tag"
)

// The digests that stand here as digits were told by other programs than this one.

const (
	ofNothing  = "6e340b9cffb37a989ca544e6bb780a2c78901d3fb33738768511a30617afa01d"
	ofNoValue  = "084fed08b978af4d7d196a7446a86b58009e636b611db16211b65a9aadff29c5"
	ofByte65   = "5f4122c293c51f674c228094b0e0bcdd3616a1eb57fab4a0f994624592d2c170"
	ofZeroLeaf = "60c236824c44243ccea3a2b8c04fa7776725a4d8b02d54ee7484e434329a008a"
	ofTwoEmpty = "08275fa3607b9fbefda10a3972b9f05f7c1bc392d1d68f5fd9d58ac9ff384cba"
)

// values are digests of noise as a value, at the lengths that the chapter names and where a block of the digest ends.
var values = []struct {
	size   int
	digest string
}{
	{0, ofNoValue},
	{1, "8655173af1ec080de2dae0c6d0a7a2da5ade8b2cf8117645da18b90aaefd0ee2"},
	{54, "f73dd35265b36851362ebf38fc9b7513149fc9295bdd9a4559512b44714494ba"},
	{55, "f381f6245a12a7c548de340974d2090b15e06954abc13889ed958cb142caecd7"},
	{62, "acf9a6c7f9e38ef6ad8a52d89f2dd712c31edf5d145f3fb16bf4a7cb031b7f19"},
	{63, "352175dc53237cdb7037c826d93a2c4b5705af3a4dc5c6c4b2c5d37ecae4462a"},
	{64, "6377441f68a57e156581769c1ae1db803b8b6f4f2b53d54df96858065ca50845"},
	{1023, "c2295588d838ff0707c589e31bc8237d3dc01710a3ee551ea241202c8aa91ca9"},
	{1024, "f05b98b4975c90fae96b9c28199c39d77d3d91f6adef4cf87ec81194ca45d583"},
	{1025, "cac383c4ff8bd335aa5d0d2dd2ccedb8395a7b29bf66bb41e16a29beb64c578f"},
	{100_000, "67fe28223f7470534b2462349dc46be3e30e94a0fdd7c9f83e0068c9e0be2eef"},
}

// noise is a text of n bytes, no two neighbours alike.
func noise(n int) []byte {
	b := make([]byte, n)
	for i := range b {
		b[i] = byte(7*i + 3)
	}
	return b
}

// rising tells 32 bytes from a first one on.
func rising(from byte) (b [32]byte) {
	for i := range b {
		b[i] = from + byte(i)
	}
	return b
}

// The parts of all ordinary leaves and inner nodes here: no two of them have a byte in common.
func key() api.Path   { return rising(0) }
func left() api.Hash  { return rising(100) }
func right() api.Hash { return rising(200) }

// scribble writes over a text and its spare room, so that whatever shares either shows it.
func scribble(b []byte) {
	b = b[:cap(b)]
	for i := range b {
		b[i] ^= 0xee
	}
}

func is(t *testing.T, call string, got api.Hash, want string) {
	t.Helper()
	if digits := octet.Hex(got[:]); digits != want {
		t.Errorf("%s = %s, not %s", call, digits, want)
	}
}

func TestExamples(t *testing.T) {
	is(t, "Empty", tag.Empty(), ofNothing)
	is(t, "Value of nothing", tag.Value([]byte{}), ofNoValue)
	is(t, "Value of the byte 65", tag.Value([]byte{65}), ofByte65)
	is(t, "Of(3, (65))", tag.Of(3, [][]byte{{65}}), ofByte65)
	is(t, "Leaf of 32 bytes 0", tag.Leaf(api.Path{}, tag.Value(nil)), ofZeroLeaf)
	is(t, "Inner(E, E)", tag.Inner(tag.Empty(), tag.Empty()), ofTwoEmpty)
	if tag.Clash(api.Clash{One: []byte{1}, Two: []byte{1}}) {
		t.Error("Clash of (1), (1)")
	}
	if tag.Clash(api.Clash{One: []byte{1}, Two: []byte{2}}) {
		t.Error("Clash of (1), (2)")
	}
	if h, e := tag.Entry(api.Path{}, make([]byte, 1025)); e != api.ErrLong || h != (api.Hash{}) {
		t.Errorf("Entry of a value of 1,025 bytes = %x, %d", h, e)
	}
}

func TestOf(t *testing.T) {
	const none, oneTwo = "a8100ae6aa1940d0b663bb31cd466142ebbdbd5187131b92d93818987832eb89", "a274ff8539966215eb9053fe3483e6184054d7a74e114d65f2dd5094235a73d3"
	for _, c := range []struct {
		name  string
		t     byte
		parts [][]byte
		want  string
	}{
		{"no parts, nil", 255, nil, none},
		{"no parts, empty", 255, [][]byte{}, none},
		{"a part of no bytes", 255, [][]byte{{}}, none},
		{"parts of no bytes", 255, [][]byte{nil, {}, nil}, none},
		{"two parts", 7, [][]byte{[]byte("one"), []byte("two")}, oneTwo},
		{"both as one part", 7, [][]byte{[]byte("onetwo")}, oneTwo},
		{"parted elsewhere", 7, [][]byte{[]byte("o"), []byte("netw"), []byte("o")}, oneTwo},
		{"parts of no bytes among others", 7, [][]byte{nil, []byte("one"), {}, nil, []byte("two"), {}}, oneTwo},
		{"one long part", 255, [][]byte{noise(1_000_000)}, "bbfb12e898b24875b057a0fbf80c48331decfafe79915a06a0980fa36ae81a6a"},
	} {
		is(t, c.name, tag.Of(c.t, c.parts), c.want)
	}
	if tag.Of(7, [][]byte{[]byte("two"), []byte("one")}) == tag.Of(7, [][]byte{[]byte("one"), []byte("two")}) {
		t.Error("the order of the parts is not told")
	}
}

func TestOfManyParts(t *testing.T) {
	var parts [][]byte
	for n := range 300 {
		parts = append(parts, noise(n))
	}
	const want = "d72db8ebb48186a222e632a3eb6fd75f741ade411cb85a0a4a9949abbe6cb4e4"
	is(t, "parts of 0 to 299 bytes", tag.Of(9, parts), want)
	is(t, "the same as one part", tag.Of(9, [][]byte{bytes.Join(parts, nil)}), want)
}

// Many digests are held against one: that of all of them, one behind the other.
func TestOfEveryByte(t *testing.T) {
	var alone, ahead []byte
	k := key()
	for x := range 256 {
		h := tag.Of(byte(x), nil)
		alone = append(alone, h[:]...)
		h = tag.Of(byte(x), [][]byte{noise(x), k[:], noise(3)})
		ahead = append(ahead, h[:]...)
	}
	is(t, "each byte alone", sha.Sum(alone), "e76b1e82e1189cce0e82735c9940c57419087a2f1872dec78fb5f2778440ef0a")
	is(t, "each byte ahead of parts", sha.Sum(ahead), "570d18ddb6082b095cd18a2f023454480fbb6708ece8f40e9fe651d73ee56d48")
}

func TestValue(t *testing.T) {
	is(t, "Value of nil", tag.Value(nil), ofNoValue)
	for _, v := range values {
		is(t, "Value of noise", tag.Value(noise(v.size)), v.digest)
	}
}

func TestLeafAndInner(t *testing.T) {
	is(t, "a leaf", tag.Leaf(key(), left()), "c8d7e03bdf888b239bd5ade3c08ba92f6bfd22fa9f8c9de7e2bd156c138ad775")
	is(t, "an inner node", tag.Inner(left(), right()), "a7129c369f4a453c31f6aa42d4b1ce432d0c62dc057c3f3b817731f7fd5e9f40")
	is(t, "its sides exchanged", tag.Inner(right(), left()), "49fe210a055af1365539d65850a366e3d7a0fceb877956e263d51b0920ec8d7e")
}

func TestTexts(t *testing.T) {
	k, l, r := key(), left(), right()
	for _, c := range []struct {
		name string
		got  []byte
		want [][]byte
	}{
		{"EmptyText", tag.EmptyText(), [][]byte{{0}}},
		{"LeafText", tag.LeafText(k, l), [][]byte{{1}, k[:], l[:]}},
		{"LeafText of noughts", tag.LeafText(api.Path{}, api.Hash{}), [][]byte{{1}, make([]byte, 64)}},
		{"InnerText", tag.InnerText(l, r), [][]byte{{2}, l[:], r[:]}},
		{"InnerText, its sides exchanged", tag.InnerText(r, l), [][]byte{{2}, r[:], l[:]}},
		{"InnerText of one side twice", tag.InnerText(l, l), [][]byte{{2}, l[:], l[:]}},
		{"ValueText of nil", tag.ValueText(nil), [][]byte{{3}}},
		{"ValueText of nothing", tag.ValueText([]byte{}), [][]byte{{3}}},
		{"ValueText of the byte 65", tag.ValueText([]byte{65}), [][]byte{{3}, {65}}},
	} {
		if !bytes.Equal(c.got, bytes.Join(c.want, nil)) {
			t.Errorf("%s = %v", c.name, c.got)
		}
	}
	for _, v := range values {
		if text := noise(v.size); !bytes.Equal(tag.ValueText(text), append([]byte{3}, text...)) {
			t.Errorf("ValueText of %d bytes", v.size)
		}
	}
}

func TestEntry(t *testing.T) {
	for _, c := range []struct {
		size int
		want string
	}{
		{0, "91dc5f7ae0be62697166ce16caa89f1babb4a5a41574771fbf793d2ec5f3c1fc"},
		{1, "a3536da9c9def706b0e6cfd205a0e1157541a6f7799907fab1222a2ee6a4b3fd"},
		{1023, "f37a0cb81344e74910be8022e19469748fffa7d8dee160c39dd9de7b8cf18437"},
		{1024, "2f7ac6371859f183153d63e3eba56ace23eec06493cd1cb02cc1f1e363eecd4e"},
	} {
		h, e := tag.Entry(key(), noise(c.size))
		is(t, "Entry", h, c.want)
		if e != api.OK {
			t.Errorf("Entry of a value of %d bytes = %d", c.size, e)
		}
	}
	if h, e := tag.Entry(api.Path{}, nil); octet.Hex(h[:]) != ofZeroLeaf || e != api.OK {
		t.Errorf("Entry of noughts and nil = %x, %d", h, e)
	}
	for _, size := range []int{1025, 1026, 2048, 65536, 1_000_000} {
		if h, e := tag.Entry(key(), noise(size)); h != (api.Hash{}) || e != api.ErrLong {
			t.Errorf("Entry of a value of %d bytes = %x, %d", size, h, e)
		}
	}
}

// A limit that went by a value's room instead of its length would show here.
func TestEntryGoesByLengthAlone(t *testing.T) {
	want, _ := tag.Entry(key(), noise(5))
	if h, e := tag.Entry(key(), noise(5000)[:5]); h != want || e != api.OK {
		t.Errorf("Entry of 5 bytes with room behind them = %x, %d", h, e)
	}
}

// No two unlike texts with one digest are known, so that true can't be asked for here.
func TestClash(t *testing.T) {
	texts := [][]byte{nil, {}, {0}, {0, 0}, {1}, {1, 0}, {128}, tag.LeafText(key(), left()), tag.InnerText(left(), right()), noise(55), noise(56), noise(64), noise(65), noise(1025)}
	for i, one := range texts {
		if tag.Clash(api.Clash{One: one, Two: one}) || tag.Clash(api.Clash{One: one, Two: bytes.Clone(one)}) {
			t.Errorf("Clash of text %d and the same", i)
		}
		for j, two := range texts {
			if tag.Clash(api.Clash{One: one, Two: two}) {
				t.Errorf("Clash of texts %d and %d", i, j)
			}
		}
	}
	if tag.Clash(api.Clash{}) {
		t.Error("Clash of no texts")
	}
}

func TestDigestsAreThoseOfTheTexts(t *testing.T) {
	if tag.Empty() != sha.Sum(tag.EmptyText()) {
		t.Error("Empty")
	}
	for n := range 1100 {
		v := noise(n)
		k, h, other := api.Path(sha.Sum(v)), tag.Value(v), tag.Of(byte(n), [][]byte{v})
		if h != sha.Sum(tag.ValueText(v)) {
			t.Errorf("Value of %d bytes", n)
		}
		leaf := sha.Sum(tag.LeafText(k, h))
		if tag.Leaf(k, h) != leaf {
			t.Errorf("Leaf of a value of %d bytes", n)
		}
		if e, err := tag.Entry(k, v); n <= 1024 && (e != leaf || err != api.OK) {
			t.Errorf("Entry of a value of %d bytes = %x, %d", n, e, err)
		}
		if tag.Inner(h, other) != sha.Sum(tag.InnerText(h, other)) {
			t.Errorf("Inner behind %d bytes", n)
		}
	}
}

// touched tells 32 bytes and all those that differ from them in one bit.
func touched(b [32]byte) [][32]byte {
	all := [][32]byte{b}
	for bit := range 256 {
		c := b
		c[bit/8] ^= 1 << (bit % 8)
		all = append(all, c)
	}
	return all
}

// unlike holds that no text was told before, nor its digest.
func unlike(t *testing.T, seen map[string]string, name string, text []byte, digest api.Hash) {
	t.Helper()
	for _, s := range []string{"text " + string(text), "digest " + string(digest[:])} {
		if other, ok := seen[s]; ok {
			t.Errorf("%s is like %s", name, other)
		}
		seen[s] = name
	}
}

func TestTextsOfUnlikePartsAreUnlike(t *testing.T) {
	seen := map[string]string{}
	unlike(t, seen, "of nothing", tag.EmptyText(), tag.Empty())
	k, l, r := key(), left(), right()
	keys, lefts, rights := touched(k), touched(l), touched(r)
	for i := range keys {
		unlike(t, seen, "a leaf, its key touched", tag.LeafText(keys[i], l), tag.Leaf(keys[i], l))
		unlike(t, seen, "an inner node, its right side touched", tag.InnerText(l, rights[i]), tag.Inner(l, rights[i]))
		if i == 0 {
			continue // the untouched ones were told just now
		}
		unlike(t, seen, "a leaf, its value touched", tag.LeafText(k, lefts[i]), tag.Leaf(k, lefts[i]))
		unlike(t, seen, "an inner node, its left side touched", tag.InnerText(lefts[i], r), tag.Inner(lefts[i], r))
	}
	for n := range 300 {
		unlike(t, seen, "a value of noise", tag.ValueText(noise(n)), tag.Value(noise(n)))
		if n > 0 {
			unlike(t, seen, "a value of noughts", tag.ValueText(make([]byte, n)), tag.Value(make([]byte, n)))
		}
	}
}

// A value that looks like another text is still a value: its digest is not that text's.
func TestTextsOfUnlikeKindsAreUnlike(t *testing.T) {
	k, l := key(), left()
	seen := map[string]string{}
	unlike(t, seen, "of nothing", tag.EmptyText(), tag.Empty())
	unlike(t, seen, "a leaf", tag.LeafText(k, l), tag.Leaf(k, l))
	unlike(t, seen, "an inner node of the same parts", tag.InnerText(api.Hash(k), l), tag.Inner(api.Hash(k), l))
	unlike(t, seen, "a value of the same parts", tag.ValueText(append(k[:], l[:]...)), tag.Value(append(k[:], l[:]...)))
	unlike(t, seen, "a value of nothing", tag.ValueText(nil), tag.Value(nil))
	for name, v := range map[string][]byte{"the empty text": tag.EmptyText(), "a leaf's text": tag.LeafText(k, l), "an inner node's text": tag.InnerText(api.Hash(k), l), "a value's text": tag.ValueText(nil)} {
		unlike(t, seen, name+" as a value", tag.ValueText(v), tag.Value(v))
	}
}

func TestCallsLeaveWhatTheyWereHanded(t *testing.T) {
	for _, size := range []int{0, 1, 63, 1024, 1025} {
		room := noise(size + 200)
		v, list := room[:size], [][]byte{room[:size], room[size : size+1], {9}, {10}}
		parts := list[:2]
		want := tag.Of(3, [][]byte{noise(size)})
		if tag.Value(v) != want || !bytes.Equal(tag.ValueText(v), append([]byte{3}, noise(size)...)) {
			t.Errorf("a value of %d bytes: the room behind it is read", size)
		}
		if tag.Of(3, parts) != sha.Sum(append([]byte{3}, room[:size+1]...)) {
			t.Errorf("parts behind %d bytes: the room behind them is read", size)
		}
		tag.Entry(key(), v)
		tag.Clash(api.Clash{One: v, Two: room[:size+1]})
		if !bytes.Equal(room, noise(size+200)) {
			t.Errorf("%d bytes, or the room behind them, were changed", size)
		}
		if len(list[0]) != size || len(list[1]) != 1 || list[2][0] != 9 || list[3][0] != 10 {
			t.Errorf("a list of parts, or the room behind it, was changed: %d", size)
		}
	}
}

// texts tells the four texts of a value, a key and two digests.
func texts(v []byte, k api.Path, l, r api.Hash) [][]byte {
	return [][]byte{tag.EmptyText(), tag.ValueText(v), tag.LeafText(k, l), tag.InnerText(l, r)}
}

func TestTextsAreNewMemory(t *testing.T) {
	for _, size := range []int{0, 1, 64, 1024, 1025} {
		v, k, l, r := noise(size), key(), left(), right()
		first, second := texts(v, k, l, r), texts(v, k, l, r)
		want := make([]string, len(first))
		for i, b := range first {
			want[i] = string(b)
		}
		for i, b := range first {
			scribble(b)
			for j, other := range second {
				if string(other) != want[j] {
					t.Errorf("%d bytes: text %d shares memory with text %d", size, i, j)
				}
			}
		}
		if !bytes.Equal(v, noise(size)) || k != key() || l != left() || r != right() {
			t.Errorf("%d bytes: a text shares memory with what was handed in", size)
		}
		for i, b := range texts(v, k, l, r) {
			if string(b) != want[i] {
				t.Errorf("%d bytes: text %d is told otherwise behind a change of an answer", size, i)
			}
		}
		scribble(v)
		for i, b := range second {
			if string(b) != want[i] {
				t.Errorf("%d bytes: text %d looks at what was handed in", size, i)
			}
		}
	}
}

func TestDigestsAreNewMemory(t *testing.T) {
	h := tag.Empty()
	scribble(h[:])
	is(t, "Empty behind a change of an answer", tag.Empty(), ofNothing)
	h = tag.Value(nil)
	scribble(h[:])
	is(t, "Value behind a change of an answer", tag.Value(nil), ofNoValue)
}

// FuzzTag holds the calls against texts that are put together here.
func FuzzTag(f *testing.F) {
	f.Add(byte(0), []byte{}, []byte{})
	f.Add(byte(3), []byte{65}, []byte(strings.Repeat("v", 1025)))
	f.Add(byte(2), noise(32), noise(64))
	f.Fuzz(func(t *testing.T, kind byte, a, b []byte) {
		if tag.Of(kind, [][]byte{a, b}) != sha.Sum(bytes.Join([][]byte{{kind}, a, b}, nil)) {
			t.Error("Of")
		}
		if !bytes.Equal(tag.ValueText(a), append([]byte{3}, a...)) || tag.Value(a) != sha.Sum(tag.ValueText(a)) {
			t.Error("Value")
		}
		k := api.Path(sha.Sum(a))
		h, e := tag.Entry(k, b)
		if long := len(b) > 1024; long != (e == api.ErrLong) || long != (h == api.Hash{}) || !long && (e != api.OK || h != tag.Leaf(k, tag.Value(b))) {
			t.Errorf("Entry = %x, %d", h, e)
		}
		if got := tag.Clash(api.Clash{One: a, Two: b}); got != (!bytes.Equal(a, b) && sha.Sum(a) == sha.Sum(b)) {
			t.Errorf("Clash = %v", got)
		}
	})
}
