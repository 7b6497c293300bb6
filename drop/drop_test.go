package drop_test

import (
	"bytes"
	"fmt"
	"math"
	"slices"
	"testing"

	"rootcellar/api"
	"rootcellar/drop"
	"rootcellar/node"
	"rootcellar/put"
	"rootcellar/store"
)

// The keys of the document's examples.
var (
	keyZ = api.Path{}
	keyO = api.Path{31: 1}
	keyX = api.Path{0: 64}
	keyY = api.Path{0: 128}
	keyN = api.Path(bytes.Repeat([]byte{0xff}, 32)) // the last key
)

// strange are handles that are no node's in any store of a room below 60,000.
var strange = []int{-1, -2, -3, 60000, 65536, 65537, 1 << 32, 1<<32 + 1, -1<<32 + 1, math.MaxInt32, math.MinInt32, math.MaxInt, math.MinInt, math.MinInt + 1}

// noise is a text of n bytes, no two neighbours alike.
func noise(n int) []byte {
	b := make([]byte, n)
	for i := range b {
		b[i] = byte(7*i + 3)
	}
	return b
}

// flip turns a key's bit.
func flip(k api.Path, d int) api.Path {
	k[d/8] ^= 1 << (7 - d%8)
	return k
}

// fresh makes a store of a room that may be.
func fresh(t testing.TB, room int) *store.Store {
	t.Helper()
	s, e := store.New(room)
	if s == nil || e != api.OK {
		t.Fatalf("New(%d) = %v, %d", room, s, e)
	}
	return s
}

func leaf(t testing.TB, s *store.Store, key api.Path, value []byte) int {
	t.Helper()
	h, e := s.Leaf(key, value)
	if e != api.OK {
		t.Fatalf("Leaf(%x, %d bytes) = %d", key, len(value), e)
	}
	return h
}

func inner(t testing.TB, s *store.Store, d, left, right int) int {
	t.Helper()
	h, e := s.Inner(d, left, right)
	if e != api.OK {
		t.Fatalf("Inner(%d, %d, %d) = %d", d, left, right, e)
	}
	return h
}

func hold(t testing.TB, s *store.Store, h int) {
	t.Helper()
	if e := s.Hold(h); e != api.OK {
		t.Fatalf("Hold(%d) = %d", h, e)
	}
}

func letGo(t testing.TB, s *store.Store, h int) int {
	t.Helper()
	n, e := s.Drop(h)
	if e != api.OK {
		t.Fatalf("the store's Drop(%d) = %d", h, e)
	}
	return n
}

// write puts what may be put.
func write(t testing.TB, s *store.Store, root int, key api.Path, value []byte) int {
	t.Helper()
	h, e := put.Put(s, root, key, value)
	if e != api.OK {
		t.Fatalf("Put(%d, %x, %d bytes) = %d, %d", root, key, len(value), h, e)
	}
	return h
}

// all puts entries one behind the other.
func all(t testing.TB, s *store.Store, root int, l []api.Pair) int {
	t.Helper()
	for _, p := range l {
		root = write(t, s, root, p.Key, p.Value)
	}
	return root
}

// remove drops a key that is there.
func remove(t testing.TB, s *store.Store, root int, key api.Path) int {
	t.Helper()
	h, there, e := drop.Drop(s, root, key)
	if e != api.OK || !there {
		t.Fatalf("Drop(%d, %x) = %d, %t, %d", root, key, h, there, e)
	}
	return h
}

// row is all that a store tells of a handle.
type row struct {
	handle, depth, left, right, size, count, held int
	kind                                          api.Kind
	key                                           api.Path
	value                                         string
	digest                                        api.Hash
}

func told(s *store.Store, h int) row {
	left, right := s.Sides(h)
	return row{
		handle: h, depth: s.Depth(h), left: left, right: right, size: s.Size(h), count: s.Count(h), held: s.Held(h),
		kind: s.Kind(h), key: s.Key(h), value: string(s.Value(h)), digest: s.Digest(h),
	}
}

// rows tells all of a store's nodes, by rising handle.
func rows(s *store.Store) []row {
	var l []row
	for _, h := range s.Handles() {
		l = append(l, told(s, h))
	}
	return l
}

// same sees that a store is what it was.
func same(t testing.TB, when string, s *store.Store, before []row) {
	t.Helper()
	if after := rows(s); !slices.Equal(after, before) {
		t.Fatalf("%s: the store is another one behind it: of %d nodes\n%v\nnot\n%v", when, len(after), after, before)
	}
}

// costs holds Cost against what it should answer, and sees that nothing is changed.
func costs(t testing.TB, s *store.Store, root int, key api.Path, want int) {
	t.Helper()
	before := rows(s)
	if n, e := drop.Cost(s, root, key); n != want || e != api.OK {
		t.Fatalf("Cost(%d, %x) = %d, %d, not %d", root, key, n, e, want)
	}
	same(t, "Cost", s, before)
}

// absent drops a key that is not there: the root is told as it was, and nothing is changed.
func absent(t testing.TB, s *store.Store, root int, key api.Path) {
	t.Helper()
	costs(t, s, root, key, 0)
	before := rows(s)
	if h, there, e := drop.Drop(s, root, key); h != root || there || e != api.OK {
		t.Fatalf("Drop(%d, %x) = %d, %t, %d, not %d, false", root, key, h, there, e, root)
	}
	same(t, "a key that is not there", s, before)
}

// refuses asks Drop and Cost for what both refuse, and sees that nothing else is told and nothing changed.
func refuses(t testing.TB, when string, s *store.Store, root int, key api.Path, want api.Errno) {
	t.Helper()
	before := rows(s)
	if h, there, e := drop.Drop(s, root, key); h != 0 || there || e != want {
		t.Errorf("%s: Drop(%d, %x) = %d, %t, %d, not %d", when, root, key, h, there, e, want)
	}
	if n, e := drop.Cost(s, root, key); n != 0 || e != want {
		t.Errorf("%s: Cost(%d, %x) = %d, %d, not %d", when, root, key, n, e, want)
	}
	same(t, when, s, before)
}

// full sees that Drop has no room, whatever it is asked for, and changes nothing.
func full(t testing.TB, s *store.Store, root int, key api.Path) {
	t.Helper()
	before := rows(s)
	if h, there, e := drop.Drop(s, root, key); h != 0 || there || e != api.ErrStoreFull {
		t.Errorf("Drop(%d, %x) = %d, %t, %d, not ErrStoreFull", root, key, h, there, e)
	}
	same(t, "no room", s, before)
}

// besides tells entries without one.
func besides(l []api.Pair, key api.Path) []api.Pair {
	return slices.DeleteFunc(slices.Clone(l), func(p api.Pair) bool { return p.Key == key })
}

// rooted sees that a handle's digest is the root of these entries, Size of them, and callers hold it so often.
func rooted(t testing.TB, when string, s *store.Store, root int, l []api.Pair, held int) {
	t.Helper()
	want, e := node.Root(l)
	if e != api.OK || s.Digest(root) != want || s.Size(root) != len(l) || s.Held(root) != held || s.Root(root) != api.OK {
		t.Fatalf("%s: %d is %x, Size %d, Held %d, Root %d, not %x, %d, %d (%d)", when, root, s.Digest(root), s.Size(root), s.Held(root), s.Root(root), want, len(l), held, e)
	}
}

func TestExamples(t *testing.T) {
	s := fresh(t, 600)
	absent(t, s, 0, keyZ)
	root := write(t, s, 0, keyZ, nil)
	costs(t, s, root, keyZ, 0)
	if root = remove(t, s, root, keyZ); root != 0 || s.Occupied() != 0 {
		t.Errorf("without Z: %d, Occupied %d", root, s.Occupied())
	}
	root = all(t, s, 0, []api.Pair{{Key: keyZ}, {Key: keyY}})
	if root = remove(t, s, root, keyY); s.Size(root) != 1 || s.Occupied() != 1 || s.Kind(root) != api.Leaf {
		t.Errorf("Z, Y without Y: Size %d, Occupied %d, Kind %d", s.Size(root), s.Occupied(), s.Kind(root))
	}
	s = fresh(t, 600)
	root = all(t, s, 0, []api.Pair{{Key: keyZ}, {Key: keyO}})
	costs(t, s, root, keyO, 0)
	if root = remove(t, s, root, keyO); s.Occupied() != 1 {
		t.Errorf("Z, O without O: Occupied %d", s.Occupied())
	}
	s = fresh(t, 600)
	root = all(t, s, 0, []api.Pair{{Key: keyZ}, {Key: keyY}, {Key: keyO}})
	costs(t, s, root, keyY, 1)
	if root = remove(t, s, root, keyY); s.Occupied() != 258 {
		t.Errorf("Z, Y, O without Y: Occupied %d", s.Occupied())
	}
	rooted(t, "Z, O", s, root, []api.Pair{{Key: keyZ}, {Key: keyO}}, 1)
}

// The document's example 2: without X the inner node of Z and X is gone, too. Example 6: the room is asked for of a key that is dropped as well.
func TestExamplesOfTheWhole(t *testing.T) {
	s := fresh(t, 600)
	root := all(t, s, 0, []api.Pair{{Key: keyZ}, {Key: keyX}, {Key: keyY}})
	costs(t, s, root, keyX, 1)
	root = remove(t, s, root, keyX)
	if left, right := s.Sides(root); s.Occupied() != 3 || s.Key(left) != keyZ || s.Key(right) != keyY || s.Kind(left) != api.Leaf || s.Kind(right) != api.Leaf {
		t.Errorf("without X: Occupied %d, sides %d, %d", s.Occupied(), left, right)
	}
	root = all(t, s, root, []api.Pair{{Key: keyO}})
	for s.Occupied() < 343 {
		leaf(t, s, keyN, nil)
	}
	full(t, s, root, keyO)
	letGo(t, s, slices.Max(s.Handles()))
	root = remove(t, s, root, keyO)
	rooted(t, "Z, Y", s, root, []api.Pair{{Key: keyZ}, {Key: keyY}}, 1)
	full(t, fresh(t, 257), 0, keyZ)
}

// Roots that are not at hand: Drop and Cost answer AtHand's error.
func TestRootsThatAreNotAtHand(t *testing.T) {
	for _, room := range []int{9, 600} { // of room 9 there is room for no key: that comes behind
		s := fresh(t, room)
		z, x, y := leaf(t, s, keyZ, noise(1)), leaf(t, s, keyX, noise(2)), leaf(t, s, keyY, noise(3))
		low := inner(t, s, 1, z, x)
		top := inner(t, s, 0, low, y)
		gone := leaf(t, s, keyN, nil)
		letGo(t, s, gone)
		for _, key := range []api.Path{keyZ, keyO, keyX, keyY, keyN} {
			refuses(t, "an inner node of depth 1", s, low, key, api.ErrArg)
			for _, h := range []int{z, x, y} {
				refuses(t, "a leaf that only a node holds", s, h, key, api.ErrMissing)
			}
			for _, h := range append([]int{gone, 7, 8, 9, room, room + 1}, strange...) {
				refuses(t, "no node", s, h, key, api.ErrMissing)
			}
		}
		hold(t, s, low)
		refuses(t, "held by a caller", s, low, keyZ, api.ErrArg)
		letGo(t, s, top)
		refuses(t, "a root that became free", s, top, keyZ, api.ErrMissing)
		refuses(t, "a leaf that became free", s, y, keyY, api.ErrMissing)
		refuses(t, "held by a caller alone", s, low, keyZ, api.ErrArg)
	}
}

// A root that Drop itself let go of, and one that was dropped by its callers.
func TestRootsThatBecameFree(t *testing.T) {
	s := fresh(t, 600)
	old := all(t, s, 0, []api.Pair{{Key: keyZ}, {Key: keyX}, {Key: keyY}})
	root := remove(t, s, old, keyZ)
	refuses(t, "let go of by Drop", s, old, keyX, api.ErrMissing)
	two := remove(t, s, root, keyX)
	refuses(t, "let go of by Drop", s, root, keyY, api.ErrMissing)
	letGo(t, s, two)
	refuses(t, "let go of by its caller", s, two, keyY, api.ErrMissing)
	one := write(t, s, 0, keyZ, nil)
	remove(t, s, one, keyZ)
	refuses(t, "a leaf", s, one, keyZ, api.ErrMissing)
	absent(t, s, 0, keyZ)
}

// A root that only a node holds is at hand again when a caller holds it.
func TestRootThatOnlyANodeHolds(t *testing.T) {
	s := fresh(t, 600)
	top := all(t, s, 0, []api.Pair{{Key: keyZ}, {Key: keyY}})
	z, y := s.Sides(top)
	refuses(t, "only a node holds it", s, z, keyZ, api.ErrMissing)
	refuses(t, "only a node holds it", s, y, keyY, api.ErrMissing)
	hold(t, s, z)
	absent(t, s, z, keyY)
	if h := remove(t, s, z, keyZ); h != 0 || s.Occupied() != 3 {
		t.Errorf("without Z: %d, Occupied %d", h, s.Occupied())
	}
	refuses(t, "only a node holds it", s, z, keyZ, api.ErrMissing)
	rooted(t, "Z, Y", s, top, []api.Pair{{Key: keyZ}, {Key: keyY}}, 1)
}

func TestInnerNodesOfEachDepth(t *testing.T) {
	for d := range 256 {
		s := fresh(t, 300)
		left, right := leaf(t, s, keyZ, nil), leaf(t, s, flip(keyZ, d), nil)
		h := inner(t, s, d, left, right)
		if d > 0 {
			refuses(t, fmt.Sprint("depth ", d), s, h, keyZ, api.ErrArg)
			refuses(t, fmt.Sprint("depth ", d), s, h, keyN, api.ErrArg)
			continue
		}
		if root := remove(t, s, h, keyZ); root != right {
			t.Errorf("without Z: %d, not %d", root, right)
		}
	}
}

// The order of errors: ErrNil, AtHand's, ErrStoreFull.
func TestOrderOfErrors(t *testing.T) {
	refuses(t, "nil", nil, -1, keyZ, api.ErrNil)
	refuses(t, "not New's", new(store.Store), 7, keyZ, api.ErrNil)
	s := fresh(t, 257)
	refuses(t, "not at hand ahead of no room", s, 1, keyZ, api.ErrMissing)
	z, x := leaf(t, s, keyZ, nil), leaf(t, s, keyX, nil)
	low := inner(t, s, 1, z, x)
	refuses(t, "not at hand ahead of no room", s, low, keyZ, api.ErrArg)
	refuses(t, "not at hand ahead of no room", s, z, keyZ, api.ErrMissing)
	y := leaf(t, s, keyY, nil)
	top := inner(t, s, 0, low, y)
	for _, key := range []api.Path{keyZ, keyX, keyY, keyO, keyN} {
		full(t, s, top, key)
		full(t, s, 0, key)
	}
	costs(t, s, top, keyZ, 1) // Cost asks for no room
	costs(t, s, top, keyY, 1)
	costs(t, s, top, keyN, 0)
	costs(t, s, 0, keyZ, 0)
}

// none tells stores that New did not answer.
func none(t *testing.T) map[string]*store.Store {
	t.Helper()
	used := func() *store.Store {
		s := fresh(t, 600)
		all(t, s, 0, []api.Pair{{Key: keyZ}, {Key: keyY}})
		return s
	}
	copied := *used()
	over := used()
	*over = *used()
	emptied := used()
	*emptied = store.Store{}
	return map[string]*store.Store{
		"nil": nil, "a plain one": {}, "a new one": new(store.Store), "a copy": &copied, "one written over": over, "one emptied": emptied,
	}
}

func TestStoresThatNewDidNotAnswer(t *testing.T) {
	for when, s := range none(t) {
		for _, root := range append([]int{0, 1, 2, 3, 4, 5}, strange...) {
			for _, key := range []api.Path{keyZ, keyX, keyY, keyN} {
				refuses(t, when, s, root, key, api.ErrNil)
			}
		}
	}
}

// What is done to one store hangs on no other one.
func TestStoresAreByThemselves(t *testing.T) {
	one, two := fresh(t, 600), fresh(t, 600)
	root := all(t, one, 0, []api.Pair{{Key: keyZ}, {Key: keyY}})
	refuses(t, "the other store", two, root, keyZ, api.ErrMissing)
	before := rows(one)
	other := all(t, two, 0, []api.Pair{{Key: keyZ}, {Key: keyY}})
	remove(t, two, other, keyZ)
	same(t, "the other store", one, before)
	remove(t, one, root, keyY)
}

// Of nothing there is no key, in whatever store, the key of noughts neither.
func TestDropOfNothing(t *testing.T) {
	for _, room := range []int{258, 259, 600, 65536} {
		s := fresh(t, room)
		for _, key := range append(pool(), keyZ, keyO, keyN) {
			absent(t, s, 0, key)
		}
	}
	s := fresh(t, 600)
	root := all(t, s, 0, []api.Pair{{Key: keyZ}, {Key: keyY}})
	absent(t, s, 0, keyZ)
	rooted(t, "Z, Y", s, root, []api.Pair{{Key: keyZ}, {Key: keyY}}, 1)
}

// A room in which one key has no room any more: whatever is dropped is refused, what is not there too.
func TestNoRoom(t *testing.T) {
	s := fresh(t, 600)
	l := []api.Pair{{Key: keyZ, Value: noise(1)}, {Key: keyY, Value: noise(2)}, {Key: keyO, Value: noise(3)}}
	root := all(t, s, 0, l)
	one := leaf(t, s, keyX, nil)
	for s.Occupied() < 343 {
		leaf(t, s, keyN, nil)
	}
	for range 2 { // of a room with one slot too few, and of one that is full
		for _, r := range []int{0, one, root} {
			for _, key := range []api.Path{keyZ, keyY, keyO, keyX, keyN} {
				full(t, s, r, key)
			}
		}
		costs(t, s, root, keyY, 1)
		costs(t, s, root, keyZ, 1)
		costs(t, s, root, keyX, 0)
		costs(t, s, one, keyX, 0)
		for s.Occupied() < 600 {
			leaf(t, s, keyN, nil)
		}
	}
	for h := 600; s.Occupied() > 342; h-- {
		if s.Held(h) > 0 && h != root && h != one {
			letGo(t, s, h)
		}
	}
	absent(t, s, root, keyX)
	root = remove(t, s, root, keyY)
	rooted(t, "room again", s, root, besides(l, keyY), 1)
}

// Rooms that just bear one key, and one that is one slot too small.
func TestLeastRooms(t *testing.T) {
	for room := 255; room <= 262; room++ {
		s := fresh(t, room)
		a, b := leaf(t, s, keyZ, nil), leaf(t, s, keyY, nil)
		root := inner(t, s, 0, a, b)
		if room < 261 {
			full(t, s, root, keyZ)
			full(t, s, root, keyX)
			full(t, s, 0, keyZ)
			continue
		}
		absent(t, s, root, keyX)
		if h := remove(t, s, root, keyZ); h != b || s.Occupied() != 1 {
			t.Errorf("room %d: %d, Occupied %d", room, h, s.Occupied())
		}
	}
}
