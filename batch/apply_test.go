package batch_test

import (
	"fmt"
	"math"
	"slices"
	"testing"

	"rootcellar/api"
	"rootcellar/batch"
	"rootcellar/node"
	"rootcellar/store"
)

// strange are handles that are no node's in any store of a room below 60,000.
var strange = []int{-1, -2, -3, 60000, 65536, 65537, 1 << 32, 1<<32 + 1, -1<<32 + 1, math.MaxInt32, math.MinInt32, math.MaxInt, math.MinInt, math.MinInt + 1}

// fresh makes a store of a room that may be.
func fresh(t testing.TB, room int) *store.Store {
	t.Helper()
	s, e := store.New(room)
	if s == nil || e != api.OK {
		t.Fatalf("New(%d) = %v, %d", room, s, e)
	}
	return s
}

func leaf(t testing.TB, s *store.Store, key api.Path, value []byte) int {
	t.Helper()
	h, e := s.Leaf(key, value)
	if e != api.OK {
		t.Fatalf("Leaf(%x, %d bytes) = %d", key, len(value), e)
	}
	return h
}

func inner(t testing.TB, s *store.Store, d, left, right int) int {
	t.Helper()
	h, e := s.Inner(d, left, right)
	if e != api.OK {
		t.Fatalf("Inner(%d, %d, %d) = %d", d, left, right, e)
	}
	return h
}

func hold(t testing.TB, s *store.Store, h int) {
	t.Helper()
	if e := s.Hold(h); e != api.OK {
		t.Fatalf("Hold(%d) = %d", h, e)
	}
}

func letGo(t testing.TB, s *store.Store, h int) int {
	t.Helper()
	n, e := s.Drop(h)
	if e != api.OK {
		t.Fatalf("the store's Drop(%d) = %d", h, e)
	}
	return n
}

// apply writes what may be written.
func apply(t testing.TB, s *store.Store, root int, l ...api.Write) int {
	t.Helper()
	h, e := batch.Apply(s, root, l)
	if e != api.OK {
		t.Fatalf("Apply(%d, %d writes) = %d, %d", root, len(l), h, e)
	}
	return h
}

// refuses asks Apply for what it refuses, and sees that nothing else is told and nothing changed.
func refuses(t testing.TB, when string, s *store.Store, root int, l []api.Write, want api.Errno) {
	t.Helper()
	before, handed := rows(s), texts(l)
	if h, e := batch.Apply(s, root, l); h != 0 || e != want {
		t.Errorf("%s: Apply(%d, %d writes) = %d, %d, not %d", when, root, len(l), h, e, want)
	}
	same(t, when, s, before)
	if texts(l) != handed {
		t.Errorf("%s: what was handed in is changed", when)
	}
}

// unchanged asks Apply for what changes nothing: the root is told as it was.
func unchanged(t testing.TB, when string, s *store.Store, root int, l ...api.Write) {
	t.Helper()
	before := rows(s)
	if h, e := batch.Apply(s, root, l); h != root || e != api.OK {
		t.Fatalf("%s: Apply(%d, %d writes) = %d, %d", when, root, len(l), h, e)
	}
	same(t, when, s, before)
}

func TestExamples(t *testing.T) {
	tellsOrder(t, "+Y, +Z, -Y", []api.Write{set(keyY, 0), set(keyZ, 0), gone(keyY)}, []api.Write{set(keyZ, 0), gone(keyY)})
	tellsMap(t, "Z by +Y, -Z", []api.Pair{{Key: keyZ}}, []api.Write{set(keyY, 0), gone(keyZ)}, []api.Pair{{Key: keyY}})
	s := fresh(t, 2000)
	root := apply(t, s, 0, set(keyZ, 0), set(keyY, 0), set(keyX, 0))
	if s.Size(root) != 3 || s.Occupied() != 5 {
		t.Errorf("+Z, +Y, +X: Size %d, Occupied %d", s.Size(root), s.Occupied())
	}
	root = apply(t, s, root, gone(keyX), gone(keyY))
	if s.Size(root) != 1 || s.Occupied() != 1 {
		t.Errorf("-X, -Y: Size %d, Occupied %d", s.Size(root), s.Occupied())
	}
	refuses(t, "65 writes", s, root, make([]api.Write, 65), api.ErrLong)
	refuses(t, "room 257", fresh(t, 257), 0, []api.Write{set(keyZ, 0)}, api.ErrStoreFull)
	unchanged(t, "none", s, 0)
	unchanged(t, "none", fresh(t, 1), 0)
}

// Examples 1 to 3 and 6 of the whole.
func TestExamplesOfTheWhole(t *testing.T) {
	c := newTrial(t, 2000)
	none := c.apply(0, nil)
	z := c.apply(0, []api.Write{set(keyZ, 0)})
	if none != 0 || c.s.Occupied() != 1 {
		t.Errorf("none: %d; Z: Occupied %d", none, c.s.Occupied())
	}
	root := c.apply(z, []api.Write{set(keyY, 0)})
	if c.s.Occupied() != 3 {
		t.Errorf("Z, Y: Occupied %d", c.s.Occupied())
	}
	root = c.apply(root, []api.Write{set(keyX, 0)})
	if c.s.Occupied() != 5 {
		t.Errorf("Z, X, Y: Occupied %d", c.s.Occupied())
	}
	root = c.apply(root, []api.Write{gone(keyX)})
	if left, right := c.s.Sides(root); c.s.Occupied() != 3 || left != z || c.s.Key(right) != keyY {
		t.Errorf("without X: Occupied %d, sides %d, %d", c.s.Occupied(), left, right)
	}
	root = c.apply(root, []api.Write{gone(keyY), set(keyO, 0)})
	if c.s.Occupied() != 258 {
		t.Errorf("Z, O: Occupied %d", c.s.Occupied())
	}
	root = c.apply(root, []api.Write{set(keyY, 0)})
	if c.s.Occupied() != 259 {
		t.Errorf("Z, O, Y: Occupied %d", c.s.Occupied())
	}
	c.emptied()
}

// Roots that are not at hand: Apply answers AtHand's error, whatever is written, and be it nothing.
func TestRootsThatAreNotAtHand(t *testing.T) {
	for _, room := range []int{9, 600} { // of room 9 there is room for no key: that comes behind
		s := fresh(t, room)
		z, x, y := leaf(t, s, keyZ, noise(1)), leaf(t, s, keyX, noise(2)), leaf(t, s, keyY, noise(3))
		low := inner(t, s, 1, z, x)
		top := inner(t, s, 0, low, y)
		lone := leaf(t, s, keyN, nil)
		letGo(t, s, lone)
		lists := [][]api.Write{nil, {}, {set(keyZ, 1)}, {gone(keyO)}, {gone(keyZ), set(keyY, 8)}, many(64, scattered)}
		for _, l := range lists {
			refuses(t, "an inner node of depth 1", s, low, l, api.ErrArg)
			for _, h := range []int{z, x, y} {
				refuses(t, "a leaf that only a node holds", s, h, l, api.ErrMissing)
			}
			for _, h := range append([]int{lone, 7, 8, 9, room, room + 1}, strange...) {
				refuses(t, "no node", s, h, l, api.ErrMissing)
			}
		}
		hold(t, s, low)
		refuses(t, "held by a caller", s, low, lists[2], api.ErrArg)
		letGo(t, s, top)
		refuses(t, "a root that became free", s, top, lists[2], api.ErrMissing)
		refuses(t, "a leaf that became free", s, y, lists[0], api.ErrMissing)
		refuses(t, "held by a caller alone", s, low, lists[0], api.ErrArg)
	}
}

// Roots that Apply itself let go of are free; what it answered is at hand.
func TestRootsThatBecameFree(t *testing.T) {
	s := fresh(t, 2000)
	old := apply(t, s, 0, set(keyZ, 1), set(keyX, 2), set(keyY, 3))
	root := apply(t, s, old, gone(keyZ))
	refuses(t, "let go of by Apply", s, old, nil, api.ErrMissing)
	refuses(t, "let go of by Apply", s, old, []api.Write{set(keyZ, 1)}, api.ErrMissing)
	one := apply(t, s, root, gone(keyX))
	refuses(t, "let go of by Apply", s, root, nil, api.ErrMissing)
	if h := apply(t, s, one, gone(keyY)); h != 0 || s.Occupied() != 0 {
		t.Errorf("all gone: %d, Occupied %d", h, s.Occupied())
	}
	refuses(t, "a leaf", s, one, nil, api.ErrMissing)
	unchanged(t, "nothing", s, 0, gone(keyY))
}

// A root that only a node holds is at hand again when a caller holds it.
func TestRootThatOnlyANodeHolds(t *testing.T) {
	c := newTrial(t, 2000)
	top := c.apply(0, []api.Write{set(keyZ, 1), set(keyY, 2)})
	z, y := c.s.Sides(top)
	refuses(t, "only a node holds it", c.s, z, nil, api.ErrMissing)
	refuses(t, "only a node holds it", c.s, y, []api.Write{gone(keyY)}, api.ErrMissing)
	c.hold(z)
	two := c.apply(z, []api.Write{set(keyO, 3), set(keyX, 4)})
	refuses(t, "only nodes hold it", c.s, z, nil, api.ErrMissing)
	if c.s.Count(z) != 2 || c.s.Held(z) != 0 || c.s.Size(two) != 3 {
		t.Errorf("Z's leaf: Count %d, Held %d; Size %d", c.s.Count(z), c.s.Held(z), c.s.Size(two))
	}
	c.rooted(top, []api.Pair{pair(keyZ, 1), pair(keyY, 2)})
	c.emptied()
}

// An inner node of each depth: only that of depth 0 is a root.
func TestInnerNodesOfEachDepth(t *testing.T) {
	for d := range 256 {
		s := fresh(t, 600)
		h := inner(t, s, d, leaf(t, s, keyZ, nil), leaf(t, s, flip(keyZ, d), nil))
		if d > 0 {
			refuses(t, fmt.Sprint("depth ", d), s, h, []api.Write{set(keyZ, 1)}, api.ErrArg)
			refuses(t, fmt.Sprint("depth ", d), s, h, nil, api.ErrArg)
			continue
		}
		unchanged(t, "depth 0", s, h, set(keyZ, 0))
		apply(t, s, h, set(keyZ, 1))
	}
}

// Up to 64 writes are taken, of unlike keys or of one, and no 65, be they what they may.
func TestNumberOfWrites(t *testing.T) {
	for when, key := range map[string]func(int) api.Path{
		"scattered": scattered, "near": near, "a ladder": ladder, "one key": func(int) api.Path { return keyX },
	} {
		for _, n := range []int{0, 1, 2, 63, 64, 65, 66, 200} {
			c := newTrial(t, 17000)
			l := many(n, key)
			root := c.apply(0, l)
			if (root != 0) != (n > 0 && n <= 64) || c.s.Size(root) != len(overridden(nil, l))*min(root, 1) {
				t.Errorf("%s, %d writes: %d, Size %d", when, n, root, c.s.Size(root))
			}
			if n > 64 {
				refuses(t, when, c.s, 0, l, api.ErrLong)
				refuses(t, when, c.s, 0, deletes(l), api.ErrLong)
				refuses(t, when, c.s, 0, make([]api.Write, n), api.ErrLong)
			}
			if n > 0 && n <= 64 && c.apply(root, deletes(l)) != 0 {
				t.Errorf("%s, %d writes, gone: something is left", when, n)
			}
			c.emptied()
		}
	}
}

// Values of 1,024 bytes are taken, of 1,025 refused, also in a write that another one of its key follows; of one that is Gone they count for nothing.
func TestLengthOfValues(t *testing.T) {
	c := newTrial(t, 3000)
	root := c.apply(0, []api.Write{set(keyZ, 1024), set(keyY, 1023), set(keyX, 0)})
	for _, n := range []int{1025, 1026, 2048, 65537} {
		long := set(keyY, n)
		for when, l := range map[string][]api.Write{
			"alone": {long}, "first": {long, set(keyZ, 1), gone(keyX)}, "in the midst": {set(keyZ, 1), long, gone(keyX)},
			"last": {set(keyZ, 1), gone(keyX), long}, "written again": {long, set(keyY, 1)}, "deleted again": {long, gone(keyY)},
		} {
			refuses(t, when, c.s, root, l, api.ErrLong)
			refuses(t, when, c.s, 0, l, api.ErrLong)
		}
		long.Gone = true
		root = c.apply(root, []api.Write{set(keyO, 1024), long})
		if c.s.Size(root) != 3 {
			t.Errorf("gone, with a value of %d bytes: Size %d", n, c.s.Size(root))
		}
		root = c.apply(root, []api.Write{long, set(keyY, 1023), gone(keyO)})
		if c.s.Size(root) != 3 {
			t.Errorf("gone, then written: Size %d", c.s.Size(root))
		}
	}
	c.emptied()
}

// The order of errors: ErrNil, ErrLong, AtHand's, ErrStoreFull.
func TestOrderOfErrors(t *testing.T) {
	long := [][]api.Write{make([]api.Write, 65), {set(keyZ, 1025)}, append(deletes(many(64, near)), set(keyZ, 1025))}
	for _, l := range long {
		refuses(t, "nil", nil, -1, l, api.ErrNil)
		refuses(t, "not New's", new(store.Store), 7, l, api.ErrNil)
	}
	s := fresh(t, 257)
	z, x := leaf(t, s, keyZ, nil), leaf(t, s, keyX, nil)
	low := inner(t, s, 1, z, x)
	top := inner(t, s, 0, low, leaf(t, s, keyY, nil))
	for _, l := range long {
		for _, h := range append([]int{0, top, low, z, 9}, strange...) {
			refuses(t, "too long ahead of all but ErrNil", s, h, l, api.ErrLong)
		}
	}
	for _, l := range [][]api.Write{{set(keyZ, 0)}, {gone(keyN)}, many(64, scattered)} {
		refuses(t, "not at hand ahead of no room", s, low, l, api.ErrArg)
		refuses(t, "not at hand ahead of no room", s, z, l, api.ErrMissing)
		refuses(t, "not at hand ahead of no room", s, 9, l, api.ErrMissing)
		refuses(t, "no room", s, top, l, api.ErrStoreFull)
		refuses(t, "no room", s, 0, l, api.ErrStoreFull)
	}
	unchanged(t, "no writes need no room", s, top)
	unchanged(t, "no writes need no room", s, 0)
}

// A room that is just large enough for so many keys, and one that is one slot too small, whatever would be changed.
func TestLeastRooms(t *testing.T) {
	for _, n := range []int{0, 1, 2, 3, 17, 63, 64} {
		for when, l := range map[string][]api.Write{
			"new ones": many(n, scattered), "near ones": many(n, near), "a ladder": many(n, ladder),
			"gone":          deletes(many(n, near)),
			"each repeated": append(many(min(n, 32), near), deletes(many(min(n, 32), near))...),
		} {
			keys := len(ordered(l))
			for more := -1; more <= 1; more++ {
				room := 3 + 258*keys + more
				if room < 3 { // no writes need no room
					continue
				}
				c := newTrial(t, room)
				a, b := c.leaf(keyX, nil), c.leaf(keyY, nil)
				root := inner(t, c.s, 0, a, b)
				c.held = map[int]int{root: 1}
				if want := c.refusal(root, l); (want == api.ErrStoreFull) != (more < 0) {
					t.Fatalf("%s: %d", when, want)
				}
				c.apply(root, l)
				if more < 0 {
					c.apply(0, l)
				}
				c.emptied()
			}
		}
	}
}

// What changes nothing needs as much room; one key written often needs that of one; what is refused for no room leaves the slots as they are.
func TestNoRoom(t *testing.T) {
	s := fresh(t, 1032) // of four keys
	root := apply(t, s, 0, set(keyZ, 1), set(keyY, 2))
	lone := leaf(t, s, keyN, nil)
	for _, l := range [][]api.Write{
		{set(keyZ, 1), set(keyY, 2), gone(keyX), gone(keyO)}, {gone(keyX), gone(keyO), gone(keyN), gone(ladder(9))},
		many(4, scattered), {set(keyZ, 3), gone(keyZ), set(keyY, 9), set(keyX, 3), set(keyO, 2)},
	} {
		refuses(t, "no room", s, root, l, api.ErrStoreFull)
		refuses(t, "no room", s, lone, l, api.ErrStoreFull)
		refuses(t, "no room", s, 0, l, api.ErrStoreFull)
	}
	unchanged(t, "three keys", s, root, set(keyZ, 1), set(keyY, 2), gone(keyX), set(keyZ, 1), gone(keyX))
	letGo(t, s, lone)
	refuses(t, "no room", s, root, many(4, scattered), api.ErrStoreFull)
	s = fresh(t, 258)
	root = apply(t, s, 0, many(64, func(int) api.Path { return keyX })...)
	if s.Size(root) != 1 || string(s.Value(root)) != string(noise(63%40)) {
		t.Errorf("one key, 64 times: Size %d, a value of %d bytes", s.Size(root), len(s.Value(root)))
	}
	refuses(t, "one slot is occupied", s, root, []api.Write{gone(keyX)}, api.ErrStoreFull)
}

// What is refused leaves the slots, and the order in which they are taken, as they were.
func TestRefusalsLeaveTheOrderOfSlots(t *testing.T) {
	var taken [2][]int
	for i := range taken {
		s := fresh(t, 1400)
		root := apply(t, s, 0, set(keyZ, 1), set(keyY, 2), set(keyX, 3), set(keyO, 4))
		root = apply(t, s, root, gone(keyO), gone(keyY))
		if i == 1 {
			refuses(t, "no room", s, root, many(64, scattered), api.ErrStoreFull)
			refuses(t, "too many", s, root, many(65, scattered), api.ErrLong)
			refuses(t, "too long", s, root, []api.Write{set(keyN, 1), set(keyZ, 1025)}, api.ErrLong)
			refuses(t, "no root", s, 1399, []api.Write{set(keyN, 1)}, api.ErrMissing)
			unchanged(t, "what is there", s, root, set(keyZ, 1), gone(keyY), set(keyX, 3))
		}
		for s.Occupied() < s.Room() {
			taken[i] = append(taken[i], leaf(t, s, keyN, nil))
		}
	}
	if !slices.Equal(taken[0], taken[1]) {
		t.Errorf("the slots are taken in another order: %v, not %v", taken[1], taken[0])
	}
}

// none tells stores that New did not answer.
func none(t *testing.T) map[string]*store.Store {
	t.Helper()
	used := func() *store.Store {
		s := fresh(t, 600)
		apply(t, s, 0, set(keyZ, 0), set(keyY, 0))
		return s
	}
	copied := *used()
	over := used()
	*over = *used()
	emptied := used()
	*emptied = store.Store{}
	return map[string]*store.Store{
		"nil": nil, "a plain one": {}, "a new one": new(store.Store), "a copy": &copied, "one written over": over, "one emptied": emptied,
	}
}

func TestStoresThatNewDidNotAnswer(t *testing.T) {
	for when, s := range none(t) {
		for _, root := range append([]int{0, 1, 2, 3, 4, 5}, strange...) {
			for _, l := range [][]api.Write{nil, {}, {set(keyZ, 0)}, {gone(keyZ)}, {set(keyZ, 1025)}, make([]api.Write, 65), many(64, near)} {
				refuses(t, when, s, root, l, api.ErrNil)
			}
		}
	}
}

// What is done to one store hangs on no other one.
func TestStoresAreByThemselves(t *testing.T) {
	one, two := fresh(t, 600), fresh(t, 600)
	root := apply(t, one, 0, set(keyZ, 1), set(keyY, 2))
	refuses(t, "the other store", two, root, []api.Write{set(keyZ, 3)}, api.ErrMissing)
	before := rows(one)
	other := apply(t, two, 0, set(keyZ, 1), set(keyY, 2))
	apply(t, two, other, set(keyZ, 7), gone(keyY))
	same(t, "the other store", one, before)
	apply(t, one, root, gone(keyZ))
}

// Values that were handed in may be written over behind Apply: the store has what they were, and one text may be the value of many.
func TestApplyKeepsNothing(t *testing.T) {
	s := fresh(t, 3000)
	value := append(make([]byte, 0, 40), "a text"...)
	l := []api.Write{{Key: keyZ, Value: value}, {Key: keyY, Value: value}, {Key: keyX, Value: value[:1]}, gone(keyN)}
	root := apply(t, s, 0, l...)
	spoil(value)
	for i := range l {
		l[i] = api.Write{Key: keyO, Gone: true}
	}
	want := []api.Pair{{Key: keyZ, Value: []byte("a text")}, {Key: keyX, Value: []byte("a")}, {Key: keyY, Value: []byte("a text")}}
	if got := below(s, root); !slices.EqualFunc(got, want, samePair) {
		t.Errorf("the entries are %v, not %v", got, want)
	}
	for _, h := range s.Handles() {
		spoil(s.Value(h)) // what a store tells is a copy
	}
	if digest, _ := node.Root(want); s.Digest(root) != digest {
		t.Errorf("the digest is %x, not %x", s.Digest(root), digest)
	}
}

// The same writes to the same store lead to the same answers, whatever else was asked for.
func TestApplyHangsOnNothingElse(t *testing.T) {
	var first []row
	for i := range 3 {
		s := fresh(t, 6000)
		root := apply(t, s, 0, many(20, scattered)...)
		batch.Order(many(i*10, near))
		batch.Override(nil, many(i*10, near))
		hold(t, s, root)
		apply(t, s, root, append(deletes(many(5, scattered)), many(9, near)...)...)
		if i == 0 {
			first = rows(s)
		}
		same(t, "again", s, first)
	}
}
