package node_test

import (
	"bytes"
	"math"
	"slices"
	"strings"
	"testing"

	"rootcellar/api"
	"rootcellar/node"
	"rootcellar/octet"
	"rootcellar/sha"
	"rootcellar/tag"
)

// scattered tells a key that has few first bits in common with others.
func scattered(i int) api.Path { return api.Path(sha.Sum([]byte{byte(i >> 8), byte(i)})) }

// near tells a key that has its first 30 bytes in common with others.
func near(i int) api.Path {
	p := api.Path(bytes.Repeat([]byte{0x55}, 32))
	p[30], p[31] = byte(i>>8), byte(i)
	return p
}

// entries tells n entries by a rule for keys, with values of up to most bytes.
func entries(n, most int, key func(int) api.Path) []api.Pair {
	var l []api.Pair
	for i := range n {
		l = append(l, api.Pair{Key: key(i), Value: noise(i % (most + 1))})
	}
	return l
}

// bare tells entries with values of no bytes.
func bare(keys ...api.Path) []api.Pair {
	var l []api.Pair
	for _, k := range keys {
		l = append(l, api.Pair{Key: k})
	}
	return l
}

// digits tells a key's bits as 256 zeros and ones.
func digits(p api.Path) string {
	var s strings.Builder
	for _, b := range p {
		for weight := 128; weight > 0; weight /= 2 {
			s.WriteByte('0' + byte(int(b)/weight%2))
		}
	}
	return s.String()
}

// among tells the entries whose keys' bits begin with a text.
func among(l []api.Pair, first string) []api.Pair {
	var m []api.Pair
	for _, p := range l {
		if strings.HasPrefix(digits(p.Key), first) {
			m = append(m, p)
		}
	}
	return m
}

// byWords tells the root of the entries whose bits begin with first, as the document's words say it.
func byWords(l []api.Pair, first string) api.Hash {
	l = among(l, first)
	switch len(l) {
	case 0:
		return sha.Sum([]byte{0})
	case 1:
		v := sha.Sum(append([]byte{3}, l[0].Value...))
		return sha.Sum(append(append([]byte{1}, l[0].Key[:]...), v[:]...))
	}
	left, right := byWords(l, first+"0"), byWords(l, first+"1")
	return sha.Sum(append(append([]byte{2}, left[:]...), right[:]...))
}

// wayByWords tells a key's way, as the chapter's words say it.
func wayByWords(l []api.Pair, key api.Path) api.Proof {
	var p api.Proof
	own := digits(key)
	for d := 0; ; d++ {
		m := among(l, own[:d])
		if len(m) == 1 {
			p.End = leaf(m[0].Key, tag.Value(m[0].Value))
		}
		if len(m) < 2 {
			return p
		}
		other := "1"
		if own[d] == '1' {
			other = "0"
		}
		p.Sides = append(p.Sides, byWords(m, own[:d]+other))
	}
}

func alike(a, b api.Proof) bool { return slices.Equal(a.Sides, b.Sides) && a.End == b.End }

func rootIs(t *testing.T, name string, l []api.Pair, want string) {
	t.Helper()
	if h, e := node.Root(l); e != api.OK || octet.Hex(h[:]) != want {
		t.Errorf("Root of %s = %x, %d, not %s", name, h, e, want)
	}
}

func rootAtIs(t *testing.T, name string, l []api.Pair, d int, want api.Hash) {
	t.Helper()
	if h, e := node.RootAt(l, d); e != api.OK || h != want {
		t.Errorf("RootAt of %s at %d = %x, %d, not %x", name, d, h, e, want)
	}
}

func notAt(t *testing.T, name string, l []api.Pair, d int, want api.Errno) {
	t.Helper()
	if h, e := node.RootAt(l, d); e != want || h != (api.Hash{}) {
		t.Errorf("RootAt of %s at %d = %x, %d, not %d", name, d, h, e, want)
	}
}

// mayNotBe holds all calls that entries are handed to against entries that may not be.
func mayNotBe(t *testing.T, name string, l []api.Pair, want api.Errno) {
	t.Helper()
	if h, e := node.Root(l); e != want || h != (api.Hash{}) {
		t.Errorf("Root of %s = %x, %d, not %d", name, h, e, want)
	}
	for _, d := range []int{0, 1, 255, 256} {
		notAt(t, name, l, d, want)
	}
	for _, d := range []int{-1, 257} {
		notAt(t, name, l, d, api.ErrArg)
	}
	for _, k := range []api.Path{keyZ, keyY, scattered(0)} {
		if p, e := node.Way(l, k); e != want || !alike(p, api.Proof{}) {
			t.Errorf("Way of %s and %x = %v, %d, not %d", name, k, p, e, want)
		}
	}
}

func wayIs(t *testing.T, name string, l []api.Pair, key api.Path, want api.Proof) {
	t.Helper()
	if p, e := node.Way(l, key); e != api.OK || !alike(p, want) {
		t.Errorf("Way of %s and %x = %x, %d, not %x", name, key, p, e, want)
	}
}

func TestExamplesOfEntries(t *testing.T) {
	v := tag.Value(nil)
	lz, ly := tag.Leaf(keyZ, v), tag.Leaf(keyY, v)
	top := tag.Inner(lz, ly)
	rootIs(t, "none", nil, ofNothing)
	rootIs(t, "Z", bare(keyZ), octet.Hex(lz[:]))
	rootIs(t, "Y, Z", bare(keyY, keyZ), octet.Hex(top[:]))
	notAt(t, "Y", bare(keyY), 257, api.ErrArg)
	notAt(t, "Y, Z", bare(keyY, keyZ), 1, api.ErrArg)
	wayIs(t, "Y, Z", bare(keyY, keyZ), keyY, api.Proof{Sides: []api.Hash{lz}, End: leaf(keyY, v)})
	wayIs(t, "none", nil, keyY, api.Proof{})
	mayNotBe(t, "Z, Z", bare(keyZ, keyZ), api.ErrThere)
}

func TestRootsToldElsewhere(t *testing.T) {
	for _, c := range []struct {
		name string
		l    []api.Pair
		want string
	}{
		{"an empty list", []api.Pair{}, ofNothing},
		{"Z", bare(keyZ), ofZeroLeaf},
		{"Z, Y: bit 0", bare(keyZ, keyY), "1f9050c4f153756bd23047ebb2332f92f3746bf623b777c0624215efbb4c4b99"},
		{"Z, X: bit 1", bare(keyZ, keyX), "46fcf0342e85c4fa48cbca4dae6f7e6f612787ed1de76294efc8f505c3a87809"},
		{"Z, X, Y", bare(keyZ, keyX, keyY), "ace39eb4fa2d11258f477279de4624e986f6d78acdb0bfdf558c8d58d5ce60d9"},
		{"Z and a key unlike in bit 7", bare(keyZ, api.Path{0: 1}), "63cc053099fc1fbd3817a2a99495012ae35014d9b1adcdbd4b552db3264c43e8"},
		{"Z and a key unlike in bit 8", bare(keyZ, api.Path{1: 128}), "0088374a31613a7425707dbf8dc78676d0f7366ca3840de266aefaa21029d20a"},
		{"Z, O: bit 255", bare(keyZ, keyO), "2b8eaec7ff281f89b6c89267bfeb25bf551a46d720cd89fda9130d449038ec08"},
		{"1 scattered", entries(1, 1024, scattered), "0294c260f8c2b959ae3fa44c508050e15fae7b24b7432ab999ed975d496f6acf"},
		{"2 scattered", entries(2, 1024, scattered), "3623a693e768e2b15dd3dccf63d17ef37c835b6cdca9899dc6346a2c0379356b"},
		{"3 scattered", entries(3, 1024, scattered), "d9abc0464d83a5ebe7db8d826a884f58c63c5f506210b25dc1d7543ba42abf59"},
		{"100 scattered", entries(100, 1024, scattered), "f1673860a89631fee071bb713f7092c61f054dcebbcd5e01c8ecc7b7a99c6286"},
		{"4,096 scattered", entries(4096, 1024, scattered), "a4cb42e421ff219f0505b94e422b2f0379225acbc397d27ce1134710acdf356f"},
		{"2 near ones", entries(2, 6, near), "555d88486a40b3859353579bb07a75184376b6e05bc0e11ac9987c31e1160cc5"},
		{"4,096 near ones", entries(4096, 6, near), "26d9b7ada7ce9c09294871d0d4d733d022c869cc8e2837bd3f5c869da5b3c606"},
	} {
		rootIs(t, c.name, c.l, c.want)
		slices.Reverse(c.l)
		rootIs(t, c.name+", turned round", c.l, c.want)
		slices.SortFunc(c.l, func(a, b api.Pair) int { return bytes.Compare(a.Key[:], b.Key[:]) })
		rootIs(t, c.name+", by rising key", c.l, c.want)
	}
}

func TestRootsAtDepthsToldElsewhere(t *testing.T) {
	l := entries(4096, 6, near)
	for d, want := range map[int]string{
		100: "4d5d6447cd48e90fd849e9ae4ce5b6dd5406c8e78d0d5d057d3761fee19b4e29",
		244: "48e28ae1e42c5b5d4bfb02d009a3976d561ca8d2ade7bec7e54fb84dddd35065",
	} {
		h, _ := octet.Unhex(want)
		rootAtIs(t, "near ones", l, d, api.Hash(h))
	}
	notAt(t, "near ones", l, 245, api.ErrArg)
	h, _ := octet.Unhex("8f17af313d9ad41578e9e8c65899b80c9a911547698ec663d589bbc85ff828f0")
	rootAtIs(t, "one entry", []api.Pair{{Key: scattered(3), Value: noise(3)}}, 256, api.Hash(h))
}

// lists are lists of entries that may be.
func lists() map[string][]api.Pair {
	m := map[string][]api.Pair{
		"none":      nil,
		"one":       entries(1, 5, scattered),
		"Z O X Y":   bare(keyZ, keyO, keyX, keyY),
		"Y X Z":     bare(keyY, keyX, keyZ),
		"scattered": entries(40, 9, scattered),
		"near":      entries(20, 9, near),
	}
	for _, d := range []int{0, 1, 6, 7, 8, 9, 15, 16, 127, 128, 247, 248, 254, 255} {
		other := scattered(1)
		other[d/8] ^= 1 << (7 - d%8)
		m["two that part at "+octet.Hex([]byte{byte(d)})] = bare(other, scattered(1))
	}
	return m
}

func TestRootIsThatOfTheWords(t *testing.T) {
	for name, l := range lists() {
		rootAtIs(t, name, l, 0, byWords(l, ""))
		if h, e := node.Root(l); e != api.OK || h != byWords(l, "") {
			t.Errorf("Root of %s = %x, %d", name, h, e)
		}
	}
}

// At each depth the root is told while all keys have the bits ahead of it in common, and ErrArg behind.
func TestRootAtEachDepth(t *testing.T) {
	for name, l := range lists() {
		common := 256
		for _, p := range l {
			for digits(p.Key)[:common] != digits(l[0].Key)[:common] {
				common--
			}
		}
		for d := range 257 {
			if d > common {
				notAt(t, name, l, d, api.ErrArg)
				continue
			}
			first := ""
			if len(l) > 0 {
				first = digits(l[0].Key)[:d]
			}
			rootAtIs(t, name, l, d, byWords(l, first))
		}
	}
}

// The two that part stand in the midst of others, or at both ends.
func TestKeysThatPartAheadOfTheDepth(t *testing.T) {
	for _, l := range [][]api.Pair{
		bare(near(1), near(2), keyZ, near(3)),
		bare(keyY, near(1), near(2)),
		bare(near(1), near(2), keyY),
		bare(near(1), keyZ, near(2), keyY),
	} {
		notAt(t, "near ones and another", l, 240, api.ErrArg)
		rootAtIs(t, "near ones and another", l, 0, byWords(l, ""))
	}
}

func TestDepthsThatAreNone(t *testing.T) {
	for _, d := range []int{-1, -2, -256, -257, 257, 258, 512, 1 << 20, -1 << 20, 1 << 40, -1 << 40, math.MaxInt, math.MinInt, math.MinInt + 1} {
		notAt(t, "none", nil, d, api.ErrArg)
		notAt(t, "one", bare(keyZ), d, api.ErrArg)
		notAt(t, "two", bare(keyZ, keyY), d, api.ErrArg)
		notAt(t, "Z twice", bare(keyZ, keyZ), d, api.ErrArg)
		notAt(t, "too many", entries(4097, 0, scattered), d, api.ErrArg)
	}
	for _, d := range []int{0, 1, 255, 256} {
		rootAtIs(t, "none", nil, d, tag.Empty())
		rootAtIs(t, "one", bare(keyY), d, tag.Leaf(keyY, tag.Value(nil)))
	}
}

func TestLengthsOfValues(t *testing.T) {
	for _, size := range []int{0, 1, 1023, 1024} {
		l := []api.Pair{{Key: keyZ, Value: noise(size)}, {Key: keyY, Value: noise(size)}}
		rootAtIs(t, "values at their limit", l, 0, byWords(l, ""))
	}
	for _, size := range []int{1025, 1026, 1 << 16, 1 << 20} {
		long := api.Pair{Key: keyX, Value: noise(size)}
		mayNotBe(t, "a long value", []api.Pair{long}, api.ErrLong)
		mayNotBe(t, "a long value first", []api.Pair{long, {Key: keyZ}, {Key: keyY}}, api.ErrLong)
		mayNotBe(t, "a long value last", []api.Pair{{Key: keyZ}, {Key: keyY}, long}, api.ErrLong)
	}
}

func TestTooManyEntries(t *testing.T) {
	mayNotBe(t, "4,097", entries(4097, 0, scattered), api.ErrLong)
	mayNotBe(t, "10,000", entries(10_000, 0, near), api.ErrLong)
	same := append(bare(keyZ, keyZ), entries(4095, 0, scattered)...)
	mayNotBe(t, "4,097, two of them alike at the front", same, api.ErrLong)
	mayNotBe(t, "4,096, two of them alike at the front", same[:4096], api.ErrThere)
}

func TestKeysThatAreThere(t *testing.T) {
	l := entries(4096, 3, scattered)
	for _, c := range []struct{ one, other int }{{0, 1}, {0, 4095}, {4094, 4095}, {1000, 3000}, {2047, 2048}} {
		m := slices.Clone(l)
		m[c.other].Key = m[c.one].Key
		mayNotBe(t, "a key twice, with unlike values", m, api.ErrThere)
		m[c.other].Value = m[c.one].Value
		mayNotBe(t, "an entry twice", m, api.ErrThere)
	}
	mayNotBe(t, "Z thrice", bare(keyZ, keyZ, keyZ), api.ErrThere)
}

// Entry by entry, the first thing that is wrong is told.
func TestWhichErrorComesFirst(t *testing.T) {
	z, y, long, longZ := api.Pair{Key: keyZ}, api.Pair{Key: keyY}, api.Pair{Key: keyX, Value: noise(1025)}, api.Pair{Key: keyZ, Value: noise(1025)}
	for _, c := range []struct {
		l    []api.Pair
		want api.Errno
	}{
		{[]api.Pair{z, z, long}, api.ErrThere},
		{[]api.Pair{z, y, z, long}, api.ErrThere},
		{[]api.Pair{z, long, z}, api.ErrLong},
		{[]api.Pair{long, z, z}, api.ErrLong},
		{[]api.Pair{z, longZ}, api.ErrLong},
		{[]api.Pair{longZ, z}, api.ErrLong},
		{[]api.Pair{z, y, y, longZ}, api.ErrThere},
	} {
		mayNotBe(t, "entries wrong in two ways", c.l, c.want)
	}
	far := append(entries(4094, 0, scattered), api.Pair{Key: scattered(7)}, long)
	mayNotBe(t, "a key twice, then a long value", far, api.ErrThere)
}

func TestWayToldElsewhere(t *testing.T) {
	l := entries(100, 1024, scattered)
	for _, c := range []struct {
		i, sides int
		all      string
		end      string
	}{
		{3, 10, "9f8628d55677ef269989df8d482a2a5995b1a9a235f0c1953529a27ffa020830", "583c7dfb7b3055d99465544032a571e10a134b1b6f769422bbb71fd7fa167a5d352d39ed853bd826183d5b032164522a2472e1e37fc20580ee5da1eaee2d270e"},
		{100, 5, "492a5ed8575e23f25ec1f0d09cdfb66bee4f156405ab7666939e78d9884a9dbe", ""},
		{101, 7, "bf8ca0baa6c711bda6089ac849ef02d3d9940576b013ca9d16a1eab30fb0aea4", "29b40a3da2abf8864c33046251e0d443668771ced2ffe224f8cb14a3e969bc6288af44278df879b4c740fe3ddf59700c904edffdf16bb7d6423c5fb941e46461"},
	} {
		p, e := node.Way(l, scattered(c.i))
		var all []byte
		for _, h := range p.Sides {
			all = append(all, h[:]...)
		}
		sum := sha.Sum(all)
		if e != api.OK || len(p.Sides) != c.sides || octet.Hex(sum[:]) != c.all {
			t.Errorf("Way of 100 entries and %d: %d, %d sides, %x", c.i, e, len(p.Sides), sum)
		}
		want := api.Node{}
		if c.end != "" {
			b, _ := octet.Unhex(c.end)
			want = leaf(api.Path(b[:32]), api.Hash(b[32:]))
		}
		if p.End != want {
			t.Errorf("Way of 100 entries and %d ends with %x", c.i, p.End)
		}
	}
}

// askers are keys that are there and keys that are not, at each of the bits.
func askers(l []api.Pair) []api.Path {
	keys := []api.Path{keyZ, keyO, keyX, keyY, near(1), near(500), scattered(1), scattered(9999)}
	for i, p := range l {
		keys = append(keys, p.Key)
		for _, d := range []int{0, 1, 5, 7, 8, 63, 64, 254, 255} {
			k := p.Key
			k[d/8] ^= 1 << (7 - d%8)
			if i < 3 {
				keys = append(keys, k)
			}
		}
	}
	return keys
}

func TestWayIsThatOfTheWords(t *testing.T) {
	for name, l := range lists() {
		for _, k := range askers(l) {
			wayIs(t, name, l, k, wayByWords(l, k))
		}
	}
}

func TestWaysOfZAndO(t *testing.T) {
	v, e := tag.Value(nil), tag.Empty()
	l := bare(keyZ, keyO)
	want := api.Proof{End: leaf(keyO, v)}
	for range 255 {
		want.Sides = append(want.Sides, e)
	}
	want.Sides = append(want.Sides, tag.Leaf(keyZ, v))
	wayIs(t, "Z, O", l, keyO, want)
	h, _ := node.RootAt(l, 1)
	wayIs(t, "Z, O", l, keyY, api.Proof{Sides: []api.Hash{h}})
	h, _ = node.RootAt(l, 255)
	short := api.Proof{Sides: append(slices.Clone(want.Sides[:254]), h)}
	wayIs(t, "Z, O", l, api.Path{31: 2}, short)
}

func TestUpToldElsewhere(t *testing.T) {
	k := api.Path(noise(32))
	var sides []api.Hash
	for i := range 256 {
		sides = append(sides, sha.Sum([]byte{byte(i)}))
	}
	end := leaf(keyO, tag.Value(nil))
	for _, c := range []struct {
		name string
		p    api.Proof
		want string
	}{
		{"no sides", api.Proof{}, ofNothing},
		{"no sides, Z's leaf", api.Proof{Sides: []api.Hash{}, End: leaf(keyZ, tag.Value(nil))}, ofZeroLeaf},
		{"one side, E", api.Proof{Sides: sides[:1]}, ofTwoEmpty},
		{"9 sides", api.Proof{Sides: sides[:9]}, "744af1460b122881c352d7e2e60e625aa88c61df906637d0c92b7fd608005c88"},
		{"256 sides", api.Proof{Sides: sides}, "41acf764a89f2d97c16bb5db6a78253f65eb1794a5dd84d2d7f7f0c2d6a56543"},
		{"256 sides, O's leaf", api.Proof{Sides: sides, End: end}, "7e7eebb086311c86187112e9b5997a59ed3eb99298a58445320161a2b942ac5c"},
	} {
		if h, e := node.Up(k, c.p); e != api.OK || octet.Hex(h[:]) != c.want {
			t.Errorf("Up of %s = %x, %d", c.name, h, e)
		}
	}
}

func notUp(t *testing.T, name string, p api.Proof, want api.Errno) {
	t.Helper()
	if h, e := node.Up(keyY, p); e != want || h != (api.Hash{}) {
		t.Errorf("Up of %s = %x, %d, not %d", name, h, e, want)
	}
}

func TestUpRefuses(t *testing.T) {
	bad := []api.Node{{Kind: api.Inner}, inner(rising(1), rising(2)), {Kind: 3}, {Kind: 255}, {Key: keyY}, {Kind: api.Leaf, Left: rising(1)}, {Kind: api.Inner, Key: keyY}}
	for _, sides := range []int{257, 258, 512, 513, 10_000} {
		notUp(t, "too many sides", api.Proof{Sides: make([]api.Hash, sides)}, api.ErrLong)
		for _, end := range bad {
			notUp(t, "too many sides and a bad end", api.Proof{Sides: make([]api.Hash, sides), End: end}, api.ErrLong)
		}
	}
	for _, sides := range []int{0, 1, 255, 256} {
		for _, end := range bad {
			notUp(t, "a bad end", api.Proof{Sides: make([]api.Hash, sides), End: end}, api.ErrArg)
		}
	}
}

// Which side the other one stands on hangs on the key's bit at that depth alone.
func TestUpGoesByTheKeysBits(t *testing.T) {
	for d := range 256 {
		sides := make([]api.Hash, d+1)
		sides[d] = rising(50)
		one := scattered(5)
		two := one
		two[d/8] ^= 1 << (7 - d%8)
		for _, k := range []api.Path{one, two} {
			want := tag.Empty()
			for i := d; i >= 0; i-- {
				if digits(k)[i] == '1' {
					want = tag.Inner(sides[i], want)
				} else {
					want = tag.Inner(want, sides[i])
				}
			}
			if got, e := node.Up(k, api.Proof{Sides: sides}); e != api.OK || got != want {
				t.Errorf("Up of %x and %d sides = %x, %d", k, d+1, got, e)
			}
		}
	}
}

// P5.5 of lists, and of keys among them and not.
func TestWhatFollows(t *testing.T) {
	all := lists()
	all["many"] = entries(4096, 3, scattered)
	for name, l := range all {
		root, _ := node.Root(l)
		keys := askers(l)
		if len(keys) > 60 {
			keys = keys[:60]
		}
		for _, k := range keys {
			follows(t, name, l, root, k)
		}
		if len(l) < 2 {
			continue
		}
		left, e := node.RootAt(among(l, "0"), 1)
		right, f := node.RootAt(among(l, "1"), 1)
		if e != api.OK || f != api.OK || root != tag.Inner(left, right) {
			t.Errorf("Root of %s is not that of both sides: %d, %d", name, e, f)
		}
	}
}

func follows(t *testing.T, name string, l []api.Pair, root api.Hash, k api.Path) {
	t.Helper()
	p, e := node.Way(l, k)
	if up, f := node.Up(k, p); e != api.OK || f != api.OK || up != root {
		t.Errorf("Up of %s and the way of %x = %x, %d, %d", name, k, up, e, f)
	}
	there := slices.ContainsFunc(l, func(p api.Pair) bool { return p.Key == k })
	if own := p.End.Kind == api.Leaf && p.End.Key == k; own != there {
		t.Errorf("%x is among %s: %v, but the end is %v", k, name, there, p.End)
	}
}

func TestRootHangsOnNoOrder(t *testing.T) {
	l := entries(50, 20, scattered)
	want, _ := node.Root(l)
	way, _ := node.Way(l, scattered(20))
	for step := range 50 {
		i, j := step*17%50, step*29%50
		l[i], l[j] = l[j], l[i]
		l = append(l[1:], l[0])
		rootAtIs(t, "another order", l, 0, want)
		wayIs(t, "another order", l, scattered(20), way)
	}
}

// The list, its order, its values and all spare room stay as they were.
func TestEntriesStayAsTheyWere(t *testing.T) {
	fresh := func() []api.Pair {
		l := entries(33, 9, scattered)
		slices.Reverse(l)
		for i := range l {
			l[i].Value = append(l[i].Value, 1, 2, 3)[:len(l[i].Value)]
		}
		return l
	}
	full, want := fresh(), fresh()
	l := full[:30]
	node.Root(l)
	node.RootAt(l, 0)
	node.RootAt(l, 1)
	for i := range full {
		node.Way(l, full[i].Key)
	}
	for i := range full {
		got, old := full[i].Value, want[i].Value
		if full[i].Key != want[i].Key || !bytes.Equal(got[:cap(got)], old[:cap(old)]) || len(got) != len(old) {
			t.Errorf("the entry %d was changed", i)
		}
	}
	root, _ := node.Root(l)
	if h := byWords(want[:30], ""); h != root {
		t.Error("the spare room is counted in")
	}
}

func TestWaysAreNewMemory(t *testing.T) {
	l := entries(64, 9, scattered)
	k := scattered(7)
	want := wayByWords(l, k)
	one, _ := node.Way(l, k)
	two, _ := node.Way(l, k)
	for i := range l {
		scribble(l[i].Value)
		l[i].Key = api.Path{}
	}
	if !alike(one, want) || !alike(two, want) {
		t.Error("a way keeps what was handed in")
	}
	sides := one.Sides[:cap(one.Sides)]
	for i := range sides {
		sides[i] = rising(9)
	}
	if !alike(two, want) {
		t.Error("two ways share memory")
	}
	wayIs(t, "the entries anew", entries(64, 9, scattered), k, want)
}

func TestUpChangesNothing(t *testing.T) {
	l := entries(64, 9, scattered)
	p, _ := node.Way(l, scattered(7))
	room := append(slices.Clone(p.Sides), rising(1), rising(2))
	before := slices.Clone(room)
	p.Sides = room[:len(p.Sides)]
	root, _ := node.Root(l)
	for range 2 {
		if h, e := node.Up(scattered(7), p); e != api.OK || h != root {
			t.Errorf("Up = %x, %d", h, e)
		}
	}
	if !slices.Equal(room, before) {
		t.Error("Up changed the sides")
	}
}

// As many inner nodes as may be: pairs that part at the last bit.
func TestTheDeepestTree(t *testing.T) {
	if testing.Short() {
		t.Skip("it takes a while")
	}
	l := entries(4096, 0, func(i int) api.Path {
		k := scattered(i / 2)
		k[31] = k[31]&^1 | byte(i&1)
		return k
	})
	root, e := node.Root(l)
	p, f := node.Way(l, l[100].Key)
	up, g := node.Up(l[100].Key, p)
	if e != api.OK || f != api.OK || g != api.OK || up != root || len(p.Sides) != 256 {
		t.Error(e, f, g, len(p.Sides))
	}
	other := l[100].Key
	other[31] ^= 1
	if p.Sides[255] != tag.Leaf(other, tag.Value(nil)) || p.Sides[254] != tag.Empty() {
		t.Error("the deepest sides")
	}
}

func FuzzEntries(f *testing.F) {
	f.Add([]byte{}, []byte{})
	f.Add([]byte{0, 0, 128, 0}, []byte{1})
	f.Add([]byte{1, 0, 1, 255, 0, 7, 1, 0, 3}, []byte{7, 0})
	f.Add(noise(60), noise(5))
	f.Fuzz(func(t *testing.T, b, asked []byte) {
		l := small(b)
		twice := false
		for i := range l {
			twice = twice || slices.ContainsFunc(l[:i], func(p api.Pair) bool { return p.Key == l[i].Key })
		}
		if twice {
			mayNotBe(t, "a key twice", l, api.ErrThere)
			return
		}
		rootAtIs(t, "entries", l, 0, byWords(l, ""))
		for _, p := range small(asked) {
			wayIs(t, "entries", l, p.Key, wayByWords(l, p.Key))
			follows(t, "entries", l, byWords(l, ""), p.Key)
		}
	})
}

// small makes up to 24 entries, whose keys part at the bits that three bytes each say.
func small(b []byte) []api.Pair {
	var l []api.Pair
	for ; len(b) >= 3 && len(l) < 24; b = b[3:] {
		var k api.Path
		for _, d := range b[:2] {
			k[d/8] ^= 1 << (7 - d%8)
		}
		l = append(l, api.Pair{Key: k, Value: noise(int(b[2]))})
	}
	return l
}
