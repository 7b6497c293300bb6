package walk_test

import (
	"bytes"
	"fmt"
	"math"
	"slices"
	"testing"

	"rootcellar/api"
	"rootcellar/store"
	"rootcellar/tag"
	"rootcellar/walk"
)

// The keys of the document's examples.
var (
	keyZ = api.Path{}
	keyO = api.Path{31: 1}
	keyX = api.Path{0: 64}
	keyY = api.Path{0: 128}
	keyN = api.Path(bytes.Repeat([]byte{0xff}, 32)) // the last key
)

// strange are handles that are no node's in any store of a room below 60,000.
var strange = []int{-1, -2, -3, 60000, 65536, 65537, 1 << 32, 1<<32 + 1, -1<<32 + 1, math.MaxInt32, math.MinInt32, math.MaxInt, math.MinInt, math.MinInt + 1}

// noise is a text of n bytes, no two neighbours alike.
func noise(n int) []byte {
	b := make([]byte, n)
	for i := range b {
		b[i] = byte(7*i + 3)
	}
	return b
}

// fresh makes a store of a room that may be.
func fresh(t testing.TB, room int) *store.Store {
	t.Helper()
	s, e := store.New(room)
	if s == nil || e != api.OK {
		t.Fatalf("New(%d) = %v, %d", room, s, e)
	}
	return s
}

func leaf(t testing.TB, s *store.Store, key api.Path, value []byte) int {
	t.Helper()
	h, e := s.Leaf(key, value)
	if e != api.OK {
		t.Fatalf("Leaf(%x, %d bytes) = %d", key, len(value), e)
	}
	return h
}

func inner(t testing.TB, s *store.Store, d, left, right int) int {
	t.Helper()
	h, e := s.Inner(d, left, right)
	if e != api.OK {
		t.Fatalf("Inner(%d, %d, %d) = %d", d, left, right, e)
	}
	return h
}

func hold(t testing.TB, s *store.Store, h int) {
	t.Helper()
	if e := s.Hold(h); e != api.OK {
		t.Fatalf("Hold(%d) = %d", h, e)
	}
}

func drop(t testing.TB, s *store.Store, h int) {
	t.Helper()
	if _, e := s.Drop(h); e != api.OK {
		t.Fatalf("Drop(%d) = %d", h, e)
	}
}

// told is all that a store tells, as a text.
func told(s *store.Store) string {
	text := fmt.Appendln(nil, s.Room(), s.Occupied(), s.Handles(), s.Digest(0), s.Root(0))
	for _, h := range s.Handles() {
		left, right := s.Sides(h)
		text = fmt.Appendf(text, "%d %t %d %d %x %x %d %d %x %x %d %d %d %d\n", h, s.Has(h), s.Kind(h), s.Depth(h), s.Key(h), s.Value(h), left, right, s.Digest(h), s.Node(h), s.Size(h), s.Count(h), s.Held(h), s.Root(h))
	}
	return string(text)
}

// chapter makes the store of the chapter's examples: 3 is the root of Z (1) and Y (2).
func chapter(t testing.TB) *store.Store {
	t.Helper()
	s := fresh(t, 4)
	z, y := leaf(t, s, keyZ, nil), leaf(t, s, keyY, nil)
	if top := inner(t, s, 0, z, y); z != 1 || y != 2 || top != 3 {
		t.Fatalf("the handles are %d, %d, %d", z, y, top)
	}
	return s
}

// finds holds Find against what it should answer.
func finds(t testing.TB, s *store.Store, root int, key api.Path, want []byte, there bool) {
	t.Helper()
	value, ok, e := walk.Find(s, root, key)
	if !bytes.Equal(value, want) || ok != there || e != api.OK {
		t.Errorf("Find(%d, %x) = %x, %t, %d, not %x, %t", root, key, value, ok, e, want, there)
	}
}

// leads holds Handles and Depth against the handles that there should be.
func leads(t testing.TB, s *store.Store, root int, key api.Path, want []int, wantEnd int) {
	t.Helper()
	if way, end, e := walk.Handles(s, root, key); !slices.Equal(way, want) || end != wantEnd || e != api.OK {
		t.Errorf("Handles(%d, %x) = %v, %d, %d, not %v, %d", root, key, way, end, e, want, wantEnd)
	}
	if n, e := walk.Depth(s, root, key); n != len(want) || e != api.OK {
		t.Errorf("Depth(%d, %x) = %d, %d, not %d", root, key, n, e, len(want))
	}
}

// proves holds Way against the proof that it should be.
func proves(t testing.TB, s *store.Store, root int, key api.Path, want api.Proof) {
	t.Helper()
	if p, e := walk.Way(s, root, key); !slices.Equal(p.Sides, want.Sides) || p.End != want.End || e != api.OK {
		t.Errorf("Way(%d, %x) = %x, %d, not %x", root, key, p, e, want)
	}
}

// refuses asks all four calls for what is refused, and sees that nothing else is told.
func refuses(t testing.TB, when string, s *store.Store, root int, key api.Path, want api.Errno) {
	t.Helper()
	before := told(s)
	if value, there, e := walk.Find(s, root, key); len(value) != 0 || there || e != want {
		t.Errorf("%s: Find(%d, %x) = %x, %t, %d, not %d", when, root, key, value, there, e, want)
	}
	if way, end, e := walk.Handles(s, root, key); len(way) != 0 || end != 0 || e != want {
		t.Errorf("%s: Handles(%d, %x) = %v, %d, %d, not %d", when, root, key, way, end, e, want)
	}
	if p, e := walk.Way(s, root, key); len(p.Sides) != 0 || p.End != (api.Node{}) || e != want {
		t.Errorf("%s: Way(%d, %x) = %x, %d, not %d", when, root, key, p, e, want)
	}
	if n, e := walk.Depth(s, root, key); n != 0 || e != want {
		t.Errorf("%s: Depth(%d, %x) = %d, %d, not %d", when, root, key, n, e, want)
	}
	if told(s) != before {
		t.Errorf("%s: what is refused of %d changes the store", when, root)
	}
}

func leafOf(key api.Path, value []byte) api.Node {
	return api.Node{Kind: api.Leaf, Key: key, Value: tag.Value(value)}
}

func TestExamples(t *testing.T) {
	s := chapter(t)
	before := told(s)
	finds(t, s, 3, keyY, nil, true)
	finds(t, s, 3, keyX, nil, false)
	leads(t, s, 3, keyY, []int{3}, 2)
	leads(t, s, 3, keyX, []int{3}, 1)
	leads(t, s, 0, keyY, nil, 0)
	v := tag.Value(nil)
	proves(t, s, 3, keyY, api.Proof{Sides: []api.Hash{tag.Leaf(keyZ, v)}, End: api.Node{Kind: api.Leaf, Key: keyY, Value: v}})
	leads(t, s, 3, keyZ, []int{3}, 1)
	leads(t, s, 1, keyZ, nil, 1)
	if n, e := walk.Depth(s, 9, keyZ); n != 0 || e != api.ErrMissing {
		t.Errorf("Depth(9, Z) = %d, %d", n, e)
	}
	if told(s) != before {
		t.Error("the examples change the store")
	}
}

// The document's example 4: both proofs among Z and Y.
func TestExampleOfTheWhole(t *testing.T) {
	s := chapter(t)
	v := tag.Value(nil)
	proves(t, s, 3, keyY, api.Proof{Sides: []api.Hash{tag.Leaf(keyZ, v)}, End: leafOf(keyY, nil)})
	proves(t, s, 3, keyX, api.Proof{Sides: []api.Hash{tag.Leaf(keyY, v)}, End: leafOf(keyZ, nil)})
}

// Of no entry nothing is found: not the key of noughts, either, which the store tells of the handle 0.
func TestEmptyTree(t *testing.T) {
	for _, s := range []*store.Store{fresh(t, 1), chapter(t)} {
		for _, key := range []api.Path{keyZ, keyO, keyX, keyY, keyN} {
			finds(t, s, 0, key, nil, false)
			leads(t, s, 0, key, nil, 0)
			proves(t, s, 0, key, api.Proof{})
		}
	}
}

// A leaf is a root of one entry, whether or not a node holds it: no sides, and it ends every key's way.
func TestLeafAsRoot(t *testing.T) {
	s := fresh(t, 4)
	z, y := leaf(t, s, keyZ, noise(3)), leaf(t, s, keyY, noise(4))
	for range 2 {
		for _, key := range []api.Path{keyZ, keyO, keyX, keyY, keyN} {
			leads(t, s, z, key, nil, z)
			leads(t, s, y, key, nil, y)
			proves(t, s, z, key, api.Proof{End: leafOf(keyZ, noise(3))})
			proves(t, s, y, key, api.Proof{End: leafOf(keyY, noise(4))})
		}
		finds(t, s, z, keyZ, noise(3), true)
		finds(t, s, z, keyO, nil, false)
		finds(t, s, z, keyY, nil, false)
		finds(t, s, y, keyY, noise(4), true)
		finds(t, s, y, keyZ, nil, false)
		if s.Held(z) > 0 {
			inner(t, s, 0, z, y)
		}
	}
}

// Of Z, X, Y: ways of one inner node and of two, each end told by hand.
func TestThreeLeaves(t *testing.T) {
	s := fresh(t, 5)
	z, x, y := leaf(t, s, keyZ, noise(1)), leaf(t, s, keyX, noise(2)), leaf(t, s, keyY, noise(3))
	low := inner(t, s, 1, z, x)
	top := inner(t, s, 0, low, y)
	for _, c := range []struct {
		key   api.Path
		there []byte
		way   []int
		end   int
		sides []int
	}{
		{keyZ, noise(1), []int{top, low}, z, []int{y, x}},
		{keyX, noise(2), []int{top, low}, x, []int{y, z}},
		{keyY, noise(3), []int{top}, y, []int{low}},
		{keyO, nil, []int{top, low}, z, []int{y, x}},
		{api.Path{0: 127, 31: 9}, nil, []int{top, low}, x, []int{y, z}},
		{keyN, nil, []int{top}, y, []int{low}},
		{api.Path{0: 128, 31: 1}, nil, []int{top}, y, []int{low}},
	} {
		finds(t, s, top, c.key, c.there, c.there != nil)
		leads(t, s, top, c.key, c.way, c.end)
		want := api.Proof{End: s.Node(c.end)}
		for _, side := range c.sides {
			want.Sides = append(want.Sides, s.Digest(side))
		}
		proves(t, s, top, c.key, want)
	}
}

// deep makes the tree of Z and O, the deepest that may be: its handles from the top on, and both leaves.
func deep(t testing.TB, s *store.Store) (way []int, z, o int) {
	t.Helper()
	z, o = leaf(t, s, keyZ, noise(5)), leaf(t, s, keyO, noise(6))
	h := inner(t, s, 255, z, o)
	way = []int{h}
	for d := 254; d >= 0; d-- {
		h = inner(t, s, d, h, 0)
		way = append(way, h)
	}
	slices.Reverse(way)
	return way, z, o
}

func TestDeepestTree(t *testing.T) {
	s := fresh(t, 258)
	way, z, o := deep(t, s)
	before := told(s)
	sides := slices.Repeat([]api.Hash{tag.Empty()}, 255)
	leads(t, s, way[0], keyZ, way, z)
	leads(t, s, way[0], keyO, way, o)
	finds(t, s, way[0], keyZ, noise(5), true)
	finds(t, s, way[0], keyO, noise(6), true)
	proves(t, s, way[0], keyZ, api.Proof{Sides: append(slices.Clone(sides), s.Digest(o)), End: leafOf(keyZ, noise(5))})
	proves(t, s, way[0], keyO, api.Proof{Sides: append(slices.Clone(sides), s.Digest(z)), End: leafOf(keyO, noise(6))})
	for d := range 255 { // a key that parts from both at the depth d ends with nothing, right below it
		key := api.Path{}
		key[d/8] = 1 << (7 - d%8)
		leads(t, s, way[0], key, way[:d+1], 0)
		finds(t, s, way[0], key, nil, false)
		proves(t, s, way[0], key, api.Proof{Sides: append(slices.Clone(sides[:d]), s.Digest(way[d+1]))})
		refuses(t, "a deeper node", s, way[d+1], key, api.ErrArg)
	}
	if told(s) != before {
		t.Error("the store is another one behind it")
	}
}

// The same at the other end: all ways go right.
func TestDeepestTreeOnTheRight(t *testing.T) {
	s := fresh(t, 258)
	last := keyN
	last[31] = 0xfe
	left, right := leaf(t, s, last, noise(5)), leaf(t, s, keyN, noise(6))
	h := inner(t, s, 255, left, right)
	way := []int{h}
	for d := 254; d >= 0; d-- {
		h = inner(t, s, d, 0, h)
		way = append(way, h)
	}
	slices.Reverse(way)
	sides := slices.Repeat([]api.Hash{tag.Empty()}, 255)
	leads(t, s, h, last, way, left)
	leads(t, s, h, keyN, way, right)
	finds(t, s, h, last, noise(5), true)
	proves(t, s, h, keyN, api.Proof{Sides: append(slices.Clone(sides), s.Digest(left)), End: leafOf(keyN, noise(6))})
	leads(t, s, h, keyZ, way[:1], 0)
	proves(t, s, h, keyZ, api.Proof{Sides: []api.Hash{s.Digest(way[1])}})
	leads(t, s, h, api.Path{0: 128}, way[:2], 0)
}

func TestRootsThatAreNone(t *testing.T) {
	s := fresh(t, 9)
	z, x, y := leaf(t, s, keyZ, noise(1)), leaf(t, s, keyX, noise(2)), leaf(t, s, keyY, noise(3))
	low := inner(t, s, 1, z, x)
	top := inner(t, s, 0, low, y)
	gone := leaf(t, s, keyN, nil)
	drop(t, s, gone)
	for _, key := range []api.Path{keyZ, keyO, keyX, keyY, keyN} {
		refuses(t, "an inner node of depth 1", s, low, key, api.ErrArg)
		for _, h := range append([]int{gone, 7, 8, 9, 10, 11}, strange...) {
			refuses(t, "no node", s, h, key, api.ErrMissing)
		}
	}
	hold(t, s, low)
	refuses(t, "held by a caller, too", s, low, keyZ, api.ErrArg)
	drop(t, s, top)
	refuses(t, "a root that became free", s, top, keyZ, api.ErrMissing)
	refuses(t, "a leaf that became free", s, y, keyY, api.ErrMissing)
	refuses(t, "held still", s, low, keyZ, api.ErrArg)
	leads(t, s, z, keyZ, nil, z)
	drop(t, s, low)
	for h := 1; h <= 10; h++ {
		refuses(t, "nothing is there any more", s, h, keyZ, api.ErrMissing)
	}
	leads(t, s, 0, keyZ, nil, 0)
}

// Whatever the depth of an inner node: only that of depth 0 is a root.
func TestInnerNodesOfEachDepth(t *testing.T) {
	for d := range 256 {
		s := fresh(t, 3)
		one := api.Path{}
		one[d/8] = 1 << (7 - d%8)
		left, right := leaf(t, s, keyZ, nil), leaf(t, s, one, nil)
		h := inner(t, s, d, left, right)
		if d > 0 {
			refuses(t, fmt.Sprint("depth ", d), s, h, keyZ, api.ErrArg)
			continue
		}
		leads(t, s, h, keyZ, []int{h}, left)
		leads(t, s, h, one, []int{h}, right)
	}
}

// none tells stores that New did not answer.
func none(t *testing.T) map[string]*store.Store {
	t.Helper()
	copied := *chapter(t)
	over := chapter(t)
	*over = *chapter(t)
	emptied := chapter(t)
	*emptied = store.Store{}
	return map[string]*store.Store{
		"nil": nil, "a plain one": {}, "a new one": new(store.Store), "a copy": &copied, "one written over": over, "one emptied": emptied,
	}
}

func TestStoresThatNewDidNotAnswer(t *testing.T) {
	for when, s := range none(t) {
		for _, root := range append([]int{0, 1, 2, 3, 4, 5}, strange...) {
			for _, key := range []api.Path{keyZ, keyX, keyY, keyN} {
				refuses(t, when, s, root, key, api.ErrNil)
			}
		}
	}
}

// What is asked of one store hangs on no other one.
func TestStoresAreByThemselves(t *testing.T) {
	one, two := chapter(t), fresh(t, 4)
	refuses(t, "the other store", two, 3, keyY, api.ErrMissing)
	h := leaf(t, two, keyY, noise(7))
	finds(t, two, h, keyY, noise(7), true)
	finds(t, one, 3, keyY, nil, true)
}
