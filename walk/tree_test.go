package walk_test

import (
	"bytes"
	"fmt"
	"slices"
	"strings"
	"testing"

	"rootcellar/api"
	"rootcellar/node"
	"rootcellar/sha"
	"rootcellar/store"
	"rootcellar/tag"
	"rootcellar/walk"
)

// digits tells a key's bits, one behind the other.
func digits(k api.Path) string {
	var b strings.Builder
	for _, x := range k {
		fmt.Fprintf(&b, "%08b", x)
	}
	return b.String()
}

// flip turns a key's bit.
func flip(k api.Path, d int) api.Path {
	k[d/8] ^= 1 << (7 - d%8)
	return k
}

// grow makes the tree of entries with the same first d bits, no two of one key: its handle, held once.
func grow(t testing.TB, s *store.Store, l []api.Pair, d int) int {
	t.Helper()
	if len(l) == 0 {
		return 0
	}
	if len(l) == 1 {
		return leaf(t, s, l[0].Key, l[0].Value)
	}
	var sides [2][]api.Pair
	for _, p := range l {
		bit := p.Key[d/8] >> (7 - d%8) & 1
		sides[bit] = append(sides[bit], p)
	}
	left := grow(t, s, sides[0], d+1)
	right := grow(t, s, sides[1], d+1)
	return inner(t, s, d, left, right)
}

// anew makes a tree like that of a handle, but that a key that is there has another value: what is beside its way is shared.
func anew(t testing.TB, s *store.Store, h int, key api.Path, value []byte) int {
	t.Helper()
	if s.Kind(h) == api.Leaf {
		return leaf(t, s, key, value)
	}
	left, right := s.Sides(h)
	mine, other := &left, right
	if digits(key)[s.Depth(h)] == '1' {
		mine, other = &right, left
	}
	if other != 0 {
		hold(t, s, other)
	}
	*mine = anew(t, s, *mine, key, value)
	return inner(t, s, s.Depth(h), left, right)
}

// many makes n entries with keys that a function tells.
func many(n int, key func(int) api.Path) []api.Pair {
	var l []api.Pair
	for i := range n {
		l = append(l, api.Pair{Key: key(i), Value: noise(i % 40)})
	}
	return l
}

// scattered keys are digests; near ones part at the last bits; twins at the last one, two by two.
func scattered(i int) api.Path { return api.Path(sha.Sum([]byte{byte(i), byte(i >> 8)})) }

func near(i int) api.Path { return api.Path{30: byte(i >> 8), 31: byte(i)} }

func twins(i int) api.Path {
	k := scattered(i / 2)
	k[31] = k[31]&^1 | byte(i&1)
	return k
}

// ladder has keys each of which parts from the way of noughts one bit deeper.
func ladder(i int) api.Path { return flip(api.Path{}, i) }

func bare(keys ...api.Path) []api.Pair {
	return many(len(keys), func(i int) api.Path { return keys[i] })
}

// lists are entries of trees of several depths.
func lists() map[string][]api.Pair {
	return map[string][]api.Pair{
		"none": nil, "Z": bare(keyZ), "Y": bare(keyY), "N": bare(keyN), "Z, Y": bare(keyZ, keyY), "Z, N": bare(keyZ, keyN),
		"Z, X, Y": bare(keyZ, keyX, keyY), "X, Y": bare(keyX, keyY), "Z, X": bare(keyZ, keyX), "Y, N": bare(keyY, keyN),
		"Z, O": bare(keyZ, keyO), "Z, O, Y": bare(keyZ, keyO, keyY), "O, N": bare(keyO, keyN),
		"5 scattered": many(5, scattered), "100 scattered": many(100, scattered), "1000 scattered": many(1000, scattered),
		"100 near": many(100, near), "20 twins": many(20, twins), "256 of a ladder": many(256, ladder),
	}
}

// askers are keys of entries, keys that part from them at the edges, and others.
func askers(l []api.Pair) []api.Path {
	keys := []api.Path{keyZ, keyO, keyX, keyY, keyN, scattered(60000), flip(keyN, 255), flip(keyN, 0), flip(keyN, 1)}
	for i, p := range l {
		if i >= 20 {
			break
		}
		keys = append(keys, p.Key)
		for _, d := range []int{0, 1, 2, 5, 7, 8, 9, 16, 128, 253, 254, 255} {
			keys = append(keys, flip(p.Key, d))
		}
	}
	return keys
}

// valueOf tells what entries have for a key.
func valueOf(l []api.Pair, key api.Path) ([]byte, bool) {
	i := slices.IndexFunc(l, func(p api.Pair) bool { return p.Key == key })
	if i < 0 {
		return nil, false
	}
	return l[i].Value, true
}

// follows holds what is told of a key and a root against the entries of its tree.
func follows(t testing.TB, when string, s *store.Store, root int, l []api.Pair, key api.Path) {
	t.Helper()
	want, there := valueOf(l, key)
	if value, ok, e := walk.Find(s, root, key); e != api.OK || ok != there || !bytes.Equal(value, want) {
		t.Fatalf("%s: Find(%x) = %x, %t, %d, not %x, %t", when, key, value, ok, e, want, there)
	}
	wanted, e := node.Way(l, key)
	p, f := walk.Way(s, root, key)
	if e != api.OK || f != api.OK || !slices.Equal(p.Sides, wanted.Sides) || p.End != wanted.End {
		t.Fatalf("%s: Way(%x) = %x, %d, not %x, %d", when, key, p, f, wanted, e)
	}
	if up, e := node.Up(key, p); e != api.OK || up != s.Digest(root) {
		t.Fatalf("%s: up from Way(%x) is %x, %d, not %x", when, key, up, e, s.Digest(root))
	}
	if n, e := walk.Depth(s, root, key); n != len(p.Sides) || e != api.OK {
		t.Fatalf("%s: Depth(%x) = %d, %d, not %d", when, key, n, e, len(p.Sides))
	}
	byHandles(t, when, s, root, p, key)
}

// byHandles holds Handles against the sides that the store tells, and against a way that was found right.
func byHandles(t testing.TB, when string, s *store.Store, root int, p api.Proof, key api.Path) {
	t.Helper()
	way, end, e := walk.Handles(s, root, key)
	if e != api.OK || len(way) != len(p.Sides) || s.Node(end) != p.End || (end == 0) != (p.End.Kind == api.Empty) {
		t.Fatalf("%s: Handles(%x) = %v, %d, %d", when, key, way, end, e)
	}
	next := root
	for d, h := range way {
		if h != next || s.Kind(h) != api.Inner || s.Depth(h) != d {
			t.Fatalf("%s: Handles(%x) has %d at %d, not %d", when, key, h, d, next)
		}
		left, right := s.Sides(h)
		next = left
		if digits(key)[d] == '1' {
			next = right
		}
	}
	if end != next {
		t.Fatalf("%s: Handles(%x) ends with %d, not %d", when, key, end, next)
	}
}

func TestWaysOfTrees(t *testing.T) {
	for name, l := range lists() {
		s := fresh(t, 8000)
		root := grow(t, s, l, 0)
		before := told(s)
		for _, key := range askers(l) {
			follows(t, name, s, root, l, key)
		}
		if told(s) != before {
			t.Errorf("%s: the store is another one behind it", name)
		}
		if root != 0 && len(l) > 0 {
			drop(t, s, root)
			refuses(t, name, s, root, l[0].Key, api.ErrMissing)
		}
	}
}

// Every key that is there is found, and none beside it.
func TestFindTellsTheEntries(t *testing.T) {
	l := many(4096, scattered)
	s := fresh(t, 40000)
	root := grow(t, s, l, 0)
	for i, p := range l {
		finds(t, s, root, p.Key, p.Value, true)
		finds(t, s, root, flip(p.Key, i%256), nil, false)
		finds(t, s, root, flip(p.Key, 255), nil, false)
	}
	for i := range 1000 {
		finds(t, s, root, scattered(10000+i), nil, false)
	}
	follows(t, "4096 scattered", s, root, l, scattered(77))
	follows(t, "4096 scattered", s, root, l, scattered(10077))
}

// The three ends of a way, each at every depth that there is: the key's own leaf, another key's, nothing.
func TestEndsAtEachDepth(t *testing.T) {
	l := append(many(256, ladder), api.Pair{Key: keyZ, Value: noise(9)})
	s := fresh(t, 600)
	root := grow(t, s, l, 0)
	for d := range 256 {
		finds(t, s, root, ladder(d), noise(d%40), true)
		if n, e := walk.Depth(s, root, ladder(d)); n != d+1 || e != api.OK {
			t.Errorf("Depth of the key that parts at %d = %d, %d", d, n, e)
		}
		follows(t, "own leaf", s, root, l, ladder(d))
		if d < 255 {
			follows(t, "another key's leaf", s, root, l, flip(ladder(d), d+1))
			follows(t, "another key's leaf", s, root, l, flip(ladder(d), 255))
		}
	}
}

// Many versions in one store, each with one value that the one ahead has not: all share nodes.
func TestRootsThatShareNodes(t *testing.T) {
	for name, l := range map[string][]api.Pair{"100 scattered": many(100, scattered), "20 twins": many(20, twins), "40 of a ladder": many(40, ladder), "Z, O": bare(keyZ, keyO)} {
		s := fresh(t, 20000)
		roots, maps := []int{grow(t, s, l, 0)}, [][]api.Pair{l}
		for i := range 12 {
			next := slices.Clone(maps[i])
			at := i * 7 % len(next)
			next[at].Value = fmt.Append(nil, "written anew at ", i)
			roots = append(roots, anew(t, s, roots[i], next[at].Key, next[at].Value))
			maps = append(maps, next)
		}
		before := told(s)
		for i, root := range roots {
			for _, p := range l[:min(len(l), 10)] {
				follows(t, name, s, root, maps[i], p.Key)
				follows(t, name, s, root, maps[i], flip(p.Key, 255))
			}
		}
		if told(s) != before {
			t.Errorf("%s: the store is another one behind it", name)
		}
		for i := 0; i < len(roots); i += 2 { // with others gone each version is what it was
			drop(t, s, roots[i])
			refuses(t, name, s, roots[i], keyZ, api.ErrMissing)
		}
		for i := 1; i < len(roots); i += 2 {
			for _, p := range l[:min(len(l), 6)] {
				follows(t, name, s, roots[i], maps[i], p.Key)
			}
		}
	}
}

// Two trees whose keys are the same, but not their values: of one store, sharing nothing.
func TestRootsBesideOneAnother(t *testing.T) {
	s := fresh(t, 9)
	one := grow(t, s, []api.Pair{{Key: keyZ, Value: []byte("a")}, {Key: keyY, Value: []byte("b")}}, 0)
	two := grow(t, s, []api.Pair{{Key: keyZ, Value: []byte("c")}, {Key: keyY, Value: []byte("d")}}, 0)
	finds(t, s, one, keyZ, []byte("a"), true)
	finds(t, s, two, keyZ, []byte("c"), true)
	finds(t, s, one, keyY, []byte("b"), true)
	finds(t, s, two, keyY, []byte("d"), true)
}

// Values of each length come back whole; one of no bytes is there all the same.
func TestValuesOfAnyLength(t *testing.T) {
	s := fresh(t, 20)
	lengths := []int{0, 1, 2, 31, 32, 33, 1023, 1024}
	var l []api.Pair
	for i, n := range lengths {
		l = append(l, api.Pair{Key: api.Path{0: byte(i << 5)}, Value: noise(n)})
	}
	root := grow(t, s, l, 0)
	for i, n := range lengths {
		finds(t, s, root, api.Path{0: byte(i << 5)}, noise(n), true)
		follows(t, fmt.Sprint(n, " bytes"), s, root, l, api.Path{0: byte(i << 5)})
	}
}

// spoil writes over a list and its spare room, so that whatever shares either shows it.
func spoil[T any](l []T, with T) {
	l = l[:cap(l)]
	for i := range l {
		l[i] = with
	}
}

// What was answered may be written over: neither the store nor another answer shows it.
func TestAnswersAreNewMemory(t *testing.T) {
	s := fresh(t, 8000)
	l := append(many(60, scattered), api.Pair{Key: keyZ, Value: noise(1024)}, api.Pair{Key: keyO, Value: noise(5)})
	root := grow(t, s, l, 0)
	before := told(s)
	for _, key := range []api.Path{keyZ, keyO, scattered(3), scattered(39), flip(keyZ, 250), scattered(999)} {
		value, there, _ := walk.Find(s, root, key)
		other, _, _ := walk.Find(s, root, key)
		spoil(value, 0xee)
		_ = append(value, 1, 2, 3)
		if want, ok := valueOf(l, key); ok != there || !bytes.Equal(other, want) {
			t.Errorf("two values of %x share memory", key)
		}
		way, _, _ := walk.Handles(s, root, key)
		again, _, _ := walk.Handles(s, root, key)
		want := slices.Clone(again)
		spoil(way, -7)
		if !slices.Equal(again, want) {
			t.Errorf("two lists of handles of %x share memory", key)
		}
		p, _ := walk.Way(s, root, key)
		q, _ := walk.Way(s, root, key)
		spoil(p.Sides, tag.Value(noise(9)))
		if wanted, _ := node.Way(l, key); !slices.Equal(q.Sides, wanted.Sides) {
			t.Errorf("two ways of %x share memory", key)
		}
		if told(s) != before {
			t.Fatalf("what was answered of %x is the store's own", key)
		}
		follows(t, "written over", s, root, l, key)
	}
}

// An answer stays as it is when its nodes are gone and their slots taken anew.
func TestAnswersStay(t *testing.T) {
	s := fresh(t, 3)
	root := grow(t, s, []api.Pair{{Key: keyZ, Value: noise(40)}, {Key: keyY, Value: noise(50)}}, 0)
	value, _, _ := walk.Find(s, root, keyY)
	way, end, _ := walk.Handles(s, root, keyY)
	p, _ := walk.Way(s, root, keyY)
	drop(t, s, root)
	other := grow(t, s, []api.Pair{{Key: keyX, Value: make([]byte, 40)}, {Key: keyN, Value: make([]byte, 50)}}, 0)
	walk.Find(s, other, keyN)
	walk.Handles(s, other, keyN)
	walk.Way(s, other, keyN)
	if !bytes.Equal(value, noise(50)) || !slices.Equal(way, []int{root}) || end != 2 {
		t.Errorf("value %x, handles %v, %d", value, way, end)
	}
	if len(p.Sides) != 1 || p.Sides[0] != tag.Leaf(keyZ, tag.Value(noise(40))) || p.End != leafOf(keyY, noise(50)) {
		t.Errorf("way %x", p)
	}
}

// The greatest room, full of one tree: each leaf is found where it is.
func TestGreatestRoom(t *testing.T) {
	s := fresh(t, api.MaxNodes)
	l := many(1<<15, func(i int) api.Path { return api.Path{0: byte(i >> 7), 1: byte(i << 1)} })
	root := grow(t, s, l, 0)
	for i, p := range l {
		finds(t, s, root, p.Key, p.Value, true)
		if i%97 > 0 {
			continue
		}
		way, e := walk.Way(s, root, p.Key)
		if up, f := node.Up(p.Key, way); e != api.OK || f != api.OK || up != s.Digest(root) || len(way.Sides) != 15 {
			t.Errorf("up from the way of %x is %x, %d, %d", p.Key, up, e, f)
		}
	}
}

// made makes up to 24 entries, whose keys part at the bits that three bytes each say; of a key the first one is taken.
func made(b []byte) []api.Pair {
	var l []api.Pair
	for ; len(b) >= 3 && len(l) < 24; b = b[3:] {
		key := flip(flip(api.Path{}, int(b[0])), int(b[1]))
		if _, there := valueOf(l, key); !there {
			l = append(l, api.Pair{Key: key, Value: noise(int(b[2]))})
		}
	}
	return l
}

func FuzzWays(f *testing.F) {
	f.Add([]byte{}, []byte{0, 0, 0})
	f.Add([]byte{0, 0, 1, 128, 0, 2}, []byte{1, 1, 1, 255, 1, 1})
	f.Add([]byte{1, 0, 1, 255, 0, 7, 1, 0, 3, 255, 255, 9}, []byte{7, 0, 0, 255, 0, 0})
	f.Add(noise(60), noise(15))
	f.Fuzz(func(t *testing.T, entries, asked []byte) {
		l := made(entries)
		s := fresh(t, 8000)
		root := grow(t, s, l, 0)
		before := told(s)
		for _, p := range append(made(asked), l...) {
			follows(t, "entries", s, root, l, p.Key)
		}
		for h := -1; h <= s.Occupied()+1; h++ {
			if e := s.Root(h); e != api.OK {
				if _, _, f := walk.Find(s, h, keyZ); f != e {
					t.Fatalf("Find(%d) = %d, not %d", h, f, e)
				}
			} else if s.Kind(h) == api.Leaf {
				follows(t, "a leaf", s, h, []api.Pair{{Key: s.Key(h), Value: s.Value(h)}}, s.Key(h))
			}
		}
		if told(s) != before {
			t.Fatal("the store is another one behind it")
		}
	})
}
