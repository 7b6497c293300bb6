package put_test

import (
	"bytes"
	"fmt"
	"math"
	"slices"
	"testing"

	"rootcellar/api"
	"rootcellar/node"
	"rootcellar/put"
	"rootcellar/store"
)

// The keys of the document's examples.
var (
	keyZ = api.Path{}
	keyO = api.Path{31: 1}
	keyX = api.Path{0: 64}
	keyY = api.Path{0: 128}
	keyN = api.Path(bytes.Repeat([]byte{0xff}, 32)) // the last key
)

// strange are handles that are no node's in any store of a room below 60,000.
var strange = []int{-1, -2, -3, 60000, 65536, 65537, 1 << 32, 1<<32 + 1, -1<<32 + 1, math.MaxInt32, math.MinInt32, math.MaxInt, math.MinInt, math.MinInt + 1}

// noise is a text of n bytes, no two neighbours alike.
func noise(n int) []byte {
	b := make([]byte, n)
	for i := range b {
		b[i] = byte(7*i + 3)
	}
	return b
}

// flip turns a key's bit.
func flip(k api.Path, d int) api.Path {
	k[d/8] ^= 1 << (7 - d%8)
	return k
}

// fresh makes a store of a room that may be.
func fresh(t testing.TB, room int) *store.Store {
	t.Helper()
	s, e := store.New(room)
	if s == nil || e != api.OK {
		t.Fatalf("New(%d) = %v, %d", room, s, e)
	}
	return s
}

func leaf(t testing.TB, s *store.Store, key api.Path, value []byte) int {
	t.Helper()
	h, e := s.Leaf(key, value)
	if e != api.OK {
		t.Fatalf("Leaf(%x, %d bytes) = %d", key, len(value), e)
	}
	return h
}

func inner(t testing.TB, s *store.Store, d, left, right int) int {
	t.Helper()
	h, e := s.Inner(d, left, right)
	if e != api.OK {
		t.Fatalf("Inner(%d, %d, %d) = %d", d, left, right, e)
	}
	return h
}

func hold(t testing.TB, s *store.Store, h int) {
	t.Helper()
	if e := s.Hold(h); e != api.OK {
		t.Fatalf("Hold(%d) = %d", h, e)
	}
}

func drop(t testing.TB, s *store.Store, h int) int {
	t.Helper()
	n, e := s.Drop(h)
	if e != api.OK {
		t.Fatalf("Drop(%d) = %d", h, e)
	}
	return n
}

// write puts what may be put.
func write(t testing.TB, s *store.Store, root int, key api.Path, value []byte) int {
	t.Helper()
	h, e := put.Put(s, root, key, value)
	if e != api.OK {
		t.Fatalf("Put(%d, %x, %d bytes) = %d, %d", root, key, len(value), h, e)
	}
	return h
}

// row is all that a store tells of a handle.
type row struct {
	handle, depth, left, right, size, count, held int
	kind                                          api.Kind
	key                                           api.Path
	value                                         string
	digest                                        api.Hash
}

func told(s *store.Store, h int) row {
	left, right := s.Sides(h)
	return row{
		handle: h, depth: s.Depth(h), left: left, right: right, size: s.Size(h), count: s.Count(h), held: s.Held(h),
		kind: s.Kind(h), key: s.Key(h), value: string(s.Value(h)), digest: s.Digest(h),
	}
}

// rows tells all of a store's nodes, by rising handle.
func rows(s *store.Store) []row {
	var l []row
	for _, h := range s.Handles() {
		l = append(l, told(s, h))
	}
	return l
}

// same sees that a store is what it was.
func same(t testing.TB, when string, s *store.Store, before []row) {
	t.Helper()
	if after := rows(s); !slices.Equal(after, before) {
		t.Fatalf("%s: the store is another one behind it: of %d nodes\n%v\nnot\n%v", when, len(after), after, before)
	}
}

// costs holds Cost against what it should answer, and sees that nothing is changed.
func costs(t testing.TB, s *store.Store, root int, key api.Path, value []byte, want int) {
	t.Helper()
	before := rows(s)
	if n, e := put.Cost(s, root, key, value); n != want || e != api.OK {
		t.Fatalf("Cost(%d, %x, %d bytes) = %d, %d, not %d", root, key, len(value), n, e, want)
	}
	same(t, "Cost", s, before)
}

// refuses asks Put and Cost for what both refuse, and sees that nothing else is told and nothing changed.
func refuses(t testing.TB, when string, s *store.Store, root int, key api.Path, value []byte, want api.Errno) {
	t.Helper()
	before := rows(s)
	if h, e := put.Put(s, root, key, value); h != 0 || e != want {
		t.Errorf("%s: Put(%d, %x, %d bytes) = %d, %d, not %d", when, root, key, len(value), h, e, want)
	}
	if n, e := put.Cost(s, root, key, value); n != 0 || e != want {
		t.Errorf("%s: Cost(%d, %x, %d bytes) = %d, %d, not %d", when, root, key, len(value), n, e, want)
	}
	same(t, when, s, before)
}

// full sees that Put has no room, whatever it is asked for, and changes nothing.
func full(t testing.TB, s *store.Store, root int, key api.Path, value []byte) {
	t.Helper()
	before := rows(s)
	if h, e := put.Put(s, root, key, value); h != 0 || e != api.ErrStoreFull {
		t.Errorf("Put(%d, %x, %d bytes) = %d, %d, not ErrStoreFull", root, key, len(value), h, e)
	}
	if put.Fits(s, 1) {
		t.Errorf("there is room for a key, of %d slots %d are occupied", s.Room(), s.Occupied())
	}
	same(t, "no room", s, before)
}

// atHand holds AtHand against what it should answer.
func atHand(t testing.TB, when string, s *store.Store, root int, want api.Errno) {
	t.Helper()
	before := rows(s)
	if e := put.AtHand(s, root); e != want {
		t.Errorf("%s: AtHand(%d) = %d, not %d", when, root, e, want)
	}
	same(t, when, s, before)
}

// rooted sees that a handle's digest is the root of these entries, Size of them, and callers hold it so often.
func rooted(t testing.TB, when string, s *store.Store, root int, l []api.Pair, held int) {
	t.Helper()
	want, e := node.Root(l)
	if e != api.OK || s.Digest(root) != want || s.Size(root) != len(l) || s.Held(root) != held || s.Root(root) != api.OK {
		t.Fatalf("%s: %d is %x, Size %d, Held %d, Root %d, not %x, %d, %d (%d)", when, root, s.Digest(root), s.Size(root), s.Held(root), s.Root(root), want, len(l), held, e)
	}
}

func TestExamples(t *testing.T) {
	s := fresh(t, 600)
	one := write(t, s, 0, keyZ, nil)
	if s.Size(one) != 1 || s.Occupied() != 1 {
		t.Errorf("Z: Size %d, Occupied %d", s.Size(one), s.Occupied())
	}
	two := write(t, s, one, keyY, nil)
	if s.Size(two) != 2 || s.Occupied() != 3 {
		t.Errorf("Z, Y: Size %d, Occupied %d", s.Size(two), s.Occupied())
	}
	before := rows(s)
	if again := write(t, s, two, keyZ, nil); again != two {
		t.Errorf("Z again: %d, not %d", again, two)
	}
	same(t, "Z again", s, before)
	s = fresh(t, 600)
	one = write(t, s, 0, keyZ, nil)
	costs(t, s, one, keyO, nil, 257)
	write(t, s, one, keyO, nil)
	if s.Occupied() != 258 {
		t.Errorf("Z, O: Occupied %d", s.Occupied())
	}
	full(t, fresh(t, 257), 0, keyZ, nil)
	for _, room := range []int{9, 257, 600} {
		refuses(t, "nothing is at 9", fresh(t, room), 9, keyZ, nil, api.ErrMissing)
	}
}

// The document's examples 1 to 3, and 6: a room of 600 takes a put as long as at most 342 slots are occupied.
func TestExamplesOfTheWhole(t *testing.T) {
	s := fresh(t, 600)
	root := write(t, s, 0, keyZ, nil)
	root = write(t, s, root, keyY, nil)
	root = write(t, s, root, keyX, nil)
	rooted(t, "Z, Y, X", s, root, []api.Pair{{Key: keyZ}, {Key: keyX}, {Key: keyY}}, 1)
	if s.Occupied() != 5 {
		t.Errorf("Z, X, Y: %d slots", s.Occupied())
	}
	s = fresh(t, 600)
	root = write(t, s, 0, keyZ, nil)
	root = write(t, s, root, keyO, nil)
	root = write(t, s, root, keyY, nil)
	if s.Occupied() != 259 {
		t.Errorf("Z, O, Y: %d slots", s.Occupied())
	}
	for s.Occupied() < 342 {
		leaf(t, s, keyN, nil)
	}
	root = write(t, s, root, keyN, nil)
	rooted(t, "Z, O, Y, N", s, root, []api.Pair{{Key: keyZ}, {Key: keyO}, {Key: keyY}, {Key: keyN}}, 1)
	full(t, s, root, keyX, nil)
	full(t, fresh(t, 257), 0, keyZ, nil)
}

func TestFits(t *testing.T) {
	for _, j := range []int{0, 1, 2, 3, 63, 64} {
		for occupied := range 3 {
			for _, spare := range []int{-2, -1, 0, 1, 2} {
				room := 258*j + occupied + spare
				if room < max(1, occupied) {
					continue
				}
				s := fresh(t, room)
				for range occupied {
					leaf(t, s, keyX, noise(5))
				}
				before := rows(s)
				if got := put.Fits(s, j); got != (spare >= 0) {
					t.Errorf("Fits(%d) of room %d with %d occupied = %t", j, room, occupied, got)
				}
				same(t, "Fits", s, before)
			}
		}
	}
	for _, room := range []int{1, 257, 258, 600, 16512, 65536} {
		s := fresh(t, room)
		for _, j := range []int{-1, -2, -64, 65, 66, 254, 255, 1 << 31, 1 << 32, 1 << 56, 1 << 62, math.MaxInt, math.MinInt, math.MinInt + 1, math.MinInt / 2} {
			if put.Fits(s, j) {
				t.Errorf("Fits(%d) of room %d", j, room)
			}
		}
		for j := range 65 {
			if put.Fits(s, j) != (258*j <= room) {
				t.Errorf("Fits(%d) of room %d = %t", j, room, put.Fits(s, j))
			}
		}
	}
}

// A full store has room for no keys at all, and for none else.
func TestFitsAFullStore(t *testing.T) {
	s := fresh(t, 300)
	for s.Occupied() < 300 {
		leaf(t, s, keyZ, nil)
		if put.Fits(s, 1) != (s.Occupied() <= 42) || !put.Fits(s, 0) {
			t.Errorf("with %d occupied: Fits(0) %t, Fits(1) %t", s.Occupied(), put.Fits(s, 0), put.Fits(s, 1))
		}
	}
	drop(t, s, 7)
	if put.Fits(s, 1) || !put.Fits(s, 0) {
		t.Error("one slot is free")
	}
}

func TestAtHand(t *testing.T) {
	s := fresh(t, 600)
	z, x, y := leaf(t, s, keyZ, noise(1)), leaf(t, s, keyX, noise(2)), leaf(t, s, keyY, noise(3))
	atHand(t, "nothing", s, 0, api.OK)
	atHand(t, "a leaf", s, z, api.OK)
	low := inner(t, s, 1, z, x)
	atHand(t, "a leaf that only a node holds", s, z, api.ErrMissing)
	atHand(t, "an inner node of depth 1", s, low, api.ErrArg)
	top := inner(t, s, 0, low, y)
	atHand(t, "an inner node of depth 0", s, top, api.OK)
	atHand(t, "an inner node of depth 1 that only a node holds", s, low, api.ErrArg)
	atHand(t, "a leaf that only a node holds", s, y, api.ErrMissing)
	hold(t, s, z)
	atHand(t, "a leaf that a caller holds, too", s, z, api.OK)
	hold(t, s, top)
	drop(t, s, top)
	atHand(t, "held once still", s, top, api.OK)
	drop(t, s, top)
	atHand(t, "a root that became free", s, top, api.ErrMissing)
	atHand(t, "a node that became free", s, low, api.ErrMissing)
	atHand(t, "a leaf that a caller holds", s, z, api.OK)
	drop(t, s, z)
	atHand(t, "a leaf that became free", s, z, api.ErrMissing)
	atHand(t, "nothing", s, 0, api.OK)
	for _, h := range append([]int{4, 5, 6, 599, 600, 601}, strange...) {
		atHand(t, "no node", s, h, api.ErrMissing)
	}
}

// Roots that are not at hand: Put and Cost answer AtHand's error.
func TestRootsThatAreNotAtHand(t *testing.T) {
	for _, room := range []int{9, 600} { // of room 9 there is room for no key: that comes behind
		s := fresh(t, room)
		z, x, y := leaf(t, s, keyZ, noise(1)), leaf(t, s, keyX, noise(2)), leaf(t, s, keyY, noise(3))
		low := inner(t, s, 1, z, x)
		top := inner(t, s, 0, low, y)
		gone := leaf(t, s, keyN, nil)
		drop(t, s, gone)
		for _, key := range []api.Path{keyZ, keyO, keyX, keyY, keyN} {
			for _, value := range [][]byte{nil, noise(1), noise(2), noise(1024)} {
				refuses(t, "an inner node of depth 1", s, low, key, value, api.ErrArg)
				for _, h := range []int{z, x, y} {
					refuses(t, "a leaf that only a node holds", s, h, key, value, api.ErrMissing)
				}
				for _, h := range append([]int{gone, 7, 8, 9, 601}, strange...) {
					refuses(t, "no node", s, h, key, value, api.ErrMissing)
				}
			}
		}
		hold(t, s, low)
		refuses(t, "held by a caller", s, low, keyZ, nil, api.ErrArg)
		drop(t, s, top)
		refuses(t, "a root that became free", s, top, keyZ, nil, api.ErrMissing)
		refuses(t, "a leaf that became free", s, y, keyY, nil, api.ErrMissing)
		refuses(t, "held by a caller alone", s, low, keyZ, nil, api.ErrArg)
	}
}

func TestInnerNodesOfEachDepth(t *testing.T) {
	for d := range 256 {
		s := fresh(t, 300)
		left, right := leaf(t, s, keyZ, nil), leaf(t, s, flip(keyZ, d), nil)
		h := inner(t, s, d, left, right)
		want := api.ErrArg
		if d == 0 {
			want = api.OK
		}
		atHand(t, fmt.Sprint("depth ", d), s, h, want)
		if d > 0 {
			refuses(t, fmt.Sprint("depth ", d), s, h, keyZ, noise(1), want)
		}
	}
}

// The order of errors: ErrNil, ErrLong, AtHand's, ErrStoreFull.
func TestOrderOfErrors(t *testing.T) {
	for _, n := range []int{1025, 1026, 4096, 65537} {
		refuses(t, "nil", nil, -1, keyZ, noise(n), api.ErrNil)
		refuses(t, "not New's", new(store.Store), 0, keyZ, noise(n), api.ErrNil)
		s := fresh(t, 9)
		z, x := leaf(t, s, keyZ, nil), leaf(t, s, keyX, nil)
		low := inner(t, s, 1, z, x)
		for _, h := range []int{0, low, z, 4, -1, 10, math.MaxInt} {
			refuses(t, "too long", s, h, keyZ, noise(n), api.ErrLong)
		}
		s = fresh(t, 600)
		root := write(t, s, 0, keyZ, nil)
		refuses(t, "too long", s, 0, keyZ, noise(n), api.ErrLong)
		refuses(t, "too long", s, root, keyZ, noise(n), api.ErrLong)
		refuses(t, "too long", s, root, keyY, noise(n), api.ErrLong)
	}
	s := fresh(t, 257)
	refuses(t, "not at hand ahead of no room", s, 1, keyZ, nil, api.ErrMissing)
	z, x := leaf(t, s, keyZ, nil), leaf(t, s, keyX, nil)
	refuses(t, "not at hand ahead of no room", s, inner(t, s, 1, z, x), keyZ, nil, api.ErrArg)
	full(t, s, 0, keyZ, nil)
	costs(t, s, 0, keyZ, nil, 1) // Cost asks for no room
}

func TestValues(t *testing.T) {
	lengths := []int{0, 1, 2, 31, 32, 33, 1023, 1024}
	for _, n := range lengths {
		s := fresh(t, 600)
		root := write(t, s, 0, keyZ, noise(n))
		if got := s.Value(root); !bytes.Equal(got, noise(n)) {
			t.Errorf("%d bytes: the value is %x", n, got)
		}
		for _, m := range lengths {
			old := s.Digest(root)
			want := 1
			if n == m {
				want = 0
			}
			costs(t, s, root, keyZ, noise(m), want)
			hold(t, s, root)
			h := write(t, s, root, keyZ, noise(m))
			if (h == root) != (n == m) || !bytes.Equal(s.Value(h), noise(m)) || s.Digest(root) != old || s.Occupied() != 1+want {
				t.Errorf("%d bytes for %d: %d, not %d", m, n, h, root)
			}
			rooted(t, "written over", s, h, []api.Pair{{Key: keyZ, Value: noise(m)}}, 2-want)
			drop(t, s, h)
		}
		refuses(t, "1025 bytes", s, root, keyZ, noise(1025), api.ErrLong)
	}
}

// A value of no bytes is one, however it is handed in; so is one that differs in its last byte alone.
func TestLikeAndUnlikeValues(t *testing.T) {
	s := fresh(t, 600)
	root := write(t, s, 0, keyZ, nil)
	for _, none := range [][]byte{nil, {}, noise(9)[:0], noise(1024)[1024:]} {
		costs(t, s, root, keyZ, none, 0)
		if h := write(t, s, root, keyZ, none); h != root || s.Held(h) != 1 || s.Occupied() != 1 {
			t.Errorf("no bytes: %d, held %d times", h, s.Held(h))
		}
	}
	root = write(t, s, root, keyZ, []byte{0})
	for _, unlike := range [][]byte{{1}, {0, 0}, {}, {0, 0, 0}, {255}} {
		costs(t, s, root, keyZ, unlike, 1)
		next := write(t, s, root, keyZ, unlike)
		if next == root || !bytes.Equal(s.Value(next), unlike) || s.Occupied() != 1 {
			t.Errorf("%x: %d, %x", unlike, next, s.Value(next))
		}
		root = write(t, s, next, keyZ, []byte{0})
	}
	ends := noise(1024)
	root = write(t, s, root, keyZ, ends)
	ends[1023]++
	costs(t, s, root, keyZ, ends, 1)
}

// none tells stores that New did not answer.
func none(t *testing.T) map[string]*store.Store {
	t.Helper()
	used := func() *store.Store {
		s := fresh(t, 600)
		write(t, s, write(t, s, 0, keyZ, nil), keyY, nil)
		return s
	}
	copied := *used()
	over := used()
	*over = *used()
	emptied := used()
	*emptied = store.Store{}
	return map[string]*store.Store{
		"nil": nil, "a plain one": {}, "a new one": new(store.Store), "a copy": &copied, "one written over": over, "one emptied": emptied,
	}
}

func TestStoresThatNewDidNotAnswer(t *testing.T) {
	for when, s := range none(t) {
		for _, j := range []int{-1, 0, 1, 2, 64, 65} {
			if put.Fits(s, j) {
				t.Errorf("%s: Fits(%d)", when, j)
			}
		}
		for _, root := range append([]int{0, 1, 2, 3, 4, 5}, strange...) {
			atHand(t, when, s, root, api.ErrNil)
			for _, key := range []api.Path{keyZ, keyX, keyY, keyN} {
				for _, n := range []int{0, 1, 1024, 1025} {
					refuses(t, when, s, root, key, noise(n), api.ErrNil)
				}
			}
		}
	}
}

// What is done to one store hangs on no other one.
func TestStoresAreByThemselves(t *testing.T) {
	one, two := fresh(t, 600), fresh(t, 600)
	root := write(t, one, 0, keyZ, nil)
	refuses(t, "the other store", two, root, keyZ, nil, api.ErrMissing)
	before := rows(one)
	write(t, two, write(t, two, 0, keyO, nil), keyZ, nil)
	same(t, "the other store", one, before)
}

// spoil writes over a list and its spare room, so that whatever shares either shows it.
func spoil(b []byte) {
	b = b[:cap(b)]
	for i := range b {
		b[i] ^= 0xa5
	}
}

// What was handed in is neither changed nor kept, nor is its spare room read.
func TestValuesAreNotKept(t *testing.T) {
	for _, n := range []int{0, 1, 40, 1024} {
		s := fresh(t, 600)
		root := 0
		for i, key := range []api.Path{keyZ, keyY, keyX, keyZ, keyZ} { // new, new, parting, another value, the same one
			whole := noise(n + 3000)
			for j := range whole {
				whole[j] += byte(min(i, 3))
			}
			kept := bytes.Clone(whole)
			value := whole[100 : 100+n]
			put.Cost(s, root, key, value)
			put.AtHand(s, root)
			root = write(t, s, root, key, value)
			if !bytes.Equal(whole, kept) {
				t.Errorf("%d bytes: what was handed in is changed", n)
			}
			before := rows(s)
			spoil(whole)
			same(t, "what was handed in is written over", s, before)
		}
		want := func(i byte) []byte {
			b := noise(n + 100)[100:]
			for j := range b {
				b[j] += i
			}
			return b
		}
		rooted(t, "written over", s, root, []api.Pair{{Key: keyZ, Value: want(3)}, {Key: keyY, Value: want(1)}, {Key: keyX, Value: want(2)}}, 1)
	}
}
