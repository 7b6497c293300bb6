package store_test

import (
	"bytes"
	"fmt"
	"math"
	"slices"
	"testing"

	"rootcellar/api"
	"rootcellar/store"
	"rootcellar/tag"
)

// The keys of the document's examples.
var (
	keyZ = api.Path{}
	keyO = api.Path{31: 1}
	keyX = api.Path{0: 64}
	keyY = api.Path{0: 128}
)

// strange are handles that are no node's in any store of a room below 60,000.
var strange = []int{-1, -2, -3, 60000, 65536, 65537, 1 << 32, 1<<32 + 1, -1<<32 + 1, math.MaxInt32, math.MinInt32, math.MaxInt, math.MinInt, math.MinInt + 1}

// noise is a text of n bytes, no two neighbours alike.
func noise(n int) []byte {
	b := make([]byte, n)
	for i := range b {
		b[i] = byte(7*i + 3)
	}
	return b
}

// scribble writes over a text and its spare room, so that whatever shares either shows it.
func scribble(b []byte) {
	b = b[:cap(b)]
	for i := range b {
		b[i] ^= 0xee
	}
}

// fresh makes a store of a room that may be.
func fresh(t testing.TB, room int) *store.Store {
	t.Helper()
	s, e := store.New(room)
	if s == nil || e != api.OK {
		t.Fatalf("New(%d) = %v, %d", room, s, e)
	}
	return s
}

func leaf(t testing.TB, s *store.Store, key api.Path, value []byte, want int) {
	t.Helper()
	if h, e := s.Leaf(key, value); h != want || e != api.OK {
		t.Fatalf("Leaf(%x, %d bytes) = %d, %d, not %d", key, len(value), h, e, want)
	}
}

func inner(t testing.TB, s *store.Store, d, left, right, want int) {
	t.Helper()
	if h, e := s.Inner(d, left, right); h != want || e != api.OK {
		t.Fatalf("Inner(%d, %d, %d) = %d, %d, not %d", d, left, right, h, e, want)
	}
}

func hold(t testing.TB, s *store.Store, h int) {
	t.Helper()
	if e := s.Hold(h); e != api.OK {
		t.Fatalf("Hold(%d) = %d", h, e)
	}
}

func drop(t testing.TB, s *store.Store, h, want int) {
	t.Helper()
	if n, e := s.Drop(h); n != want || e != api.OK {
		t.Fatalf("Drop(%d) = %d, %d, not %d", h, n, e, want)
	}
}

// told is all that a store tells, as a text.
func told(s *store.Store) string {
	text := fmt.Sprintln(s.Room(), s.Occupied(), s.Handles(), s.Digest(0), s.Root(0))
	for _, h := range s.Handles() {
		left, right := s.Sides(h)
		text += fmt.Sprintln(h, s.Has(h), s.Kind(h), s.Depth(h), s.Key(h), s.Value(h), left, right, s.Digest(h), s.Node(h), s.Size(h), s.Count(h), s.Held(h), s.Root(h))
	}
	return text
}

// notLeaf asks for a leaf that is refused, and sees that nothing changed.
func notLeaf(t testing.TB, s *store.Store, key api.Path, value []byte, want api.Errno) {
	t.Helper()
	before := told(s)
	if h, e := s.Leaf(key, value); h != 0 || e != want {
		t.Errorf("Leaf(%x, %d bytes) = %d, %d, not %d", key, len(value), h, e, want)
	}
	if told(s) != before {
		t.Error("a Leaf that is refused changes the store")
	}
}

// refused asks for an inner node that is refused.
func refused(t testing.TB, s *store.Store, d, left, right int, want api.Errno) {
	t.Helper()
	if h, e := s.Inner(d, left, right); h != 0 || e != want {
		t.Errorf("Inner(%d, %d, %d) = %d, %d, not %d", d, left, right, h, e, want)
	}
}

// notInner asks for one, too, and sees that nothing changed.
func notInner(t testing.TB, s *store.Store, d, left, right int, want api.Errno) {
	t.Helper()
	before := told(s)
	refused(t, s, d, left, right, want)
	if told(s) != before {
		t.Errorf("Inner(%d, %d, %d), refused, changes the store", d, left, right)
	}
}

// counts holds a node's count, and how often callers hold it, against what they should be.
func counts(t testing.TB, s *store.Store, h, count, held int) {
	t.Helper()
	if s.Count(h) != count || s.Held(h) != held {
		t.Errorf("handle %d: Count %d, Held %d, not %d, %d", h, s.Count(h), s.Held(h), count, held)
	}
}

// nothing asks each method for a handle that is no node's, but for 0.
func nothing(t testing.TB, s *store.Store, h int) {
	t.Helper()
	before := told(s)
	if s.Has(h) || s.Kind(h) != api.Empty || s.Depth(h) != -1 || s.Key(h) != (api.Path{}) || len(s.Value(h)) != 0 {
		t.Errorf("handle %d: Has %t, Kind %d, Depth %d, Key %x, Value %x", h, s.Has(h), s.Kind(h), s.Depth(h), s.Key(h), s.Value(h))
	}
	if left, right := s.Sides(h); left != 0 || right != 0 || s.Node(h) != (api.Node{}) {
		t.Errorf("handle %d: Sides %d, %d, Node %x", h, left, right, s.Node(h))
	}
	digest, root := api.Hash{}, api.ErrMissing
	if h == 0 {
		digest, root = tag.Empty(), api.OK
	}
	if s.Digest(h) != digest || s.Root(h) != root {
		t.Errorf("handle %d: Digest %x, Root %d", h, s.Digest(h), s.Root(h))
	}
	if s.Size(h) != 0 || s.Count(h) != 0 || s.Held(h) != 0 {
		t.Errorf("handle %d: Size %d, Count %d, Held %d", h, s.Size(h), s.Count(h), s.Held(h))
	}
	if e := s.Hold(h); e != api.ErrMissing {
		t.Errorf("Hold(%d) = %d", h, e)
	}
	if n, e := s.Drop(h); n != 0 || e != api.ErrMissing {
		t.Errorf("Drop(%d) = %d, %d", h, n, e)
	}
	if told(s) != before {
		t.Errorf("what is asked of the handle %d changes the store", h)
	}
}

func TestExamples(t *testing.T) {
	s := fresh(t, 4)
	leaf(t, s, keyZ, nil, 1)
	leaf(t, s, keyY, nil, 2)
	inner(t, s, 0, 1, 2, 3)
	counts(t, s, 1, 1, 0)
	counts(t, s, 3, 1, 1)
	if s.Size(3) != 2 || s.Key(3) != (api.Path{}) {
		t.Errorf("Size(3) = %d, Key(3) = %x", s.Size(3), s.Key(3))
	}
	notInner(t, s, 0, 1, 0, api.ErrMissing)

	hold(t, s, 1)
	notInner(t, s, 0, 1, 0, api.ErrArg)
	notInner(t, s, 0, 0, 1, api.ErrArg)
	notInner(t, s, 1, 1, 2, api.ErrMissing)

	drop(t, s, 3, 2)
	if s.Occupied() != 1 || s.Digest(1) != tag.Leaf(keyZ, tag.Value(nil)) {
		t.Errorf("Occupied = %d, Digest(1) = %x", s.Occupied(), s.Digest(1))
	}
	leaf(t, s, keyX, nil, 2)
	notInner(t, s, 0, 1, 2, api.ErrArg)
	inner(t, s, 1, 1, 2, 3)
	for h, want := range map[int]api.Errno{3: api.ErrArg, 0: api.OK, 1: api.OK} {
		if e := s.Root(h); e != want {
			t.Errorf("Root(%d) = %d, not %d", h, e, want)
		}
	}
}

func TestRoomsThatMayNotBe(t *testing.T) {
	for _, room := range []int{0, -1, -2, -65536, 65537, 65538, 131072, 1 << 30, math.MaxInt32, math.MinInt32, 1 << 32, 1<<32 + 1, -1<<32 + 1, math.MaxInt, math.MinInt} {
		if s, e := store.New(room); s != nil || e != api.ErrArg {
			t.Errorf("New(%d) = %v, %d", room, s, e)
		}
	}
}

func TestNewStores(t *testing.T) {
	for _, room := range []int{1, 2, 3, 257, 258, 600, 65535, 65536} {
		s := fresh(t, room)
		if s.Room() != room || s.Occupied() != 0 || len(s.Handles()) != 0 {
			t.Errorf("New(%d): Room %d, Occupied %d, Handles %v", room, s.Room(), s.Occupied(), s.Handles())
		}
		for _, h := range []int{0, 1, room, room + 1, -1} {
			nothing(t, s, h)
		}
		leaf(t, s, keyY, noise(3), 1)
		if other := fresh(t, room); other.Occupied() != 0 || other.Has(1) {
			t.Errorf("New(%d) tells what is in another one", room)
		}
	}
}

func TestStoresAreByThemselves(t *testing.T) {
	one, two := fresh(t, 3), fresh(t, 3)
	leaf(t, one, keyZ, noise(1), 1)
	leaf(t, one, keyY, noise(2), 2)
	leaf(t, two, keyX, noise(3), 1)
	inner(t, one, 0, 1, 2, 3)
	notInner(t, two, 0, 1, 2, api.ErrMissing)
	before := told(two)
	drop(t, one, 3, 3)
	if told(two) != before {
		t.Error("what is done to a store shows in another one")
	}
}

func TestOneSlot(t *testing.T) {
	s := fresh(t, 1)
	leaf(t, s, keyZ, noise(5), 1)
	notLeaf(t, s, keyY, nil, api.ErrStoreFull)
	if s.Occupied() != 1 || !slices.Equal(s.Handles(), []int{1}) || !s.Has(1) || s.Has(2) || s.Has(0) {
		t.Errorf("Occupied %d, Handles %v", s.Occupied(), s.Handles())
	}
	drop(t, s, 1, 1)
	nothing(t, s, 1)
	leaf(t, s, keyY, noise(6), 1)
	if s.Key(1) != keyY || !bytes.Equal(s.Value(1), noise(6)) {
		t.Errorf("Key %x, Value %x", s.Key(1), s.Value(1))
	}
}

func TestHandlesRise(t *testing.T) {
	s := fresh(t, 6)
	for h := 1; h <= 6; h++ {
		leaf(t, s, api.Path{0: byte(h)}, nil, h)
	}
	for _, h := range []int{5, 2, 3} {
		drop(t, s, h, 1)
	}
	if !slices.Equal(s.Handles(), []int{1, 4, 6}) || s.Occupied() != 3 {
		t.Errorf("Handles %v, Occupied %d", s.Handles(), s.Occupied())
	}
	leaf(t, s, keyZ, nil, 3)
	leaf(t, s, keyZ, nil, 2)
	if !slices.Equal(s.Handles(), []int{1, 2, 3, 4, 6}) || s.Occupied() != 5 {
		t.Errorf("Handles %v, Occupied %d", s.Handles(), s.Occupied())
	}
	for h := -1; h <= 8; h++ {
		if s.Has(h) != slices.Contains([]int{1, 2, 3, 4, 6}, h) {
			t.Errorf("Has(%d) = %t", h, s.Has(h))
		}
	}
}

func TestLengthsOfValues(t *testing.T) {
	s := fresh(t, 8)
	for i, n := range []int{0, 1, 2, 55, 56, 1023, 1024} {
		h := i + 1
		leaf(t, s, keyX, noise(n), h)
		v := tag.Value(noise(n))
		if !bytes.Equal(s.Value(h), noise(n)) || s.Key(h) != keyX || s.Digest(h) != tag.Leaf(keyX, v) {
			t.Errorf("a value of %d bytes: Value %x, Key %x, Digest %x", n, s.Value(h), s.Key(h), s.Digest(h))
		}
		if s.Node(h) != (api.Node{Kind: api.Leaf, Key: keyX, Value: v}) || s.Kind(h) != api.Leaf || s.Depth(h) != -1 || s.Size(h) != 1 {
			t.Errorf("a value of %d bytes: Node %x, Kind %d, Depth %d, Size %d", n, s.Node(h), s.Kind(h), s.Depth(h), s.Size(h))
		}
		if left, right := s.Sides(h); left != 0 || right != 0 || s.Root(h) != api.OK {
			t.Errorf("a value of %d bytes: Sides %d, %d, Root %d", n, left, right, s.Root(h))
		}
		counts(t, s, h, 1, 1)
	}
	for _, n := range []int{1025, 1026, 2048, 1 << 16, 1 << 20} {
		notLeaf(t, s, keyX, noise(n), api.ErrLong)
	}
	leaf(t, s, keyX, []byte{}, 8)
	for _, n := range []int{1025, 1 << 16} {
		notLeaf(t, s, keyX, noise(n), api.ErrLong) // of a full store, too
	}
	notLeaf(t, s, keyX, noise(1024), api.ErrStoreFull)
	notLeaf(t, s, keyX, nil, api.ErrStoreFull)
}

// Two leaves may have one key and one value: they are two nodes.
func TestLeavesAreNotShared(t *testing.T) {
	s := fresh(t, 3)
	leaf(t, s, keyY, noise(4), 1)
	leaf(t, s, keyY, noise(4), 2)
	hold(t, s, 1)
	counts(t, s, 1, 2, 2)
	counts(t, s, 2, 1, 1)
	for d := range 256 {
		notInner(t, s, d, 1, 2, api.ErrArg)
	}
	drop(t, s, 2, 1)
	nothing(t, s, 2)
	counts(t, s, 1, 2, 2)
}

func TestDepthsThatMayNotBe(t *testing.T) {
	s := fresh(t, 4)
	leaf(t, s, keyZ, nil, 1)
	leaf(t, s, keyO, nil, 2)
	for _, d := range []int{-1, -2, -256, 256, 257, 512, 255 + 1<<32, 255 - 1<<32, math.MaxInt32, math.MinInt32, math.MaxInt, math.MinInt} {
		notInner(t, s, d, 1, 2, api.ErrArg)
		notInner(t, s, d, 0, 0, api.ErrArg)
		notInner(t, s, d, 9, 1, api.ErrArg) // ahead of ErrMissing
		notInner(t, s, d, 1, -1, api.ErrArg)
	}
	inner(t, s, 255, 1, 2, 3)
	for _, d := range []int{-1, 255, 256} {
		notInner(t, s, d, 3, 0, api.ErrArg)
		notInner(t, s, d, 0, 3, api.ErrArg)
	}
}

// Leaves fit each depth at which their keys part, and no other one; nor the other way round.
func TestTwoLeavesAtEachDepth(t *testing.T) {
	for part := range 256 {
		one := api.Path(bytes.Repeat([]byte{0xa5}, 32))
		two := one
		two[part/8] ^= 1 << (7 - part%8)
		two[31] ^= byte(1 &^ (part / 255)) // behind where they part they may be as they like
		left, right := one, two
		if bytes.Compare(one[:], two[:]) > 0 {
			left, right = two, one
		}
		s := fresh(t, 3)
		leaf(t, s, left, noise(1), 1)
		leaf(t, s, right, noise(2), 2)
		before := told(s)
		for d := range 256 {
			refused(t, s, d, 2, 1, api.ErrArg)
			if d != part {
				refused(t, s, d, 1, 2, api.ErrArg)
			}
		}
		if told(s) != before {
			t.Errorf("parted at %d: what is refused changes the store", part)
		}
		inner(t, s, part, 1, 2, 3)
		first := api.Path{}
		copy(first[:], left[:part/8])
		first[part/8] = left[part/8] &^ (0xff >> (part % 8))
		if s.Kind(3) != api.Inner || s.Depth(3) != part || s.Key(3) != first || len(s.Value(3)) != 0 || s.Size(3) != 2 {
			t.Errorf("parted at %d: Kind %d, Depth %d, Key %x, Size %d", part, s.Kind(3), s.Depth(3), s.Key(3), s.Size(3))
		}
		l, r := tag.Leaf(left, tag.Value(noise(1))), tag.Leaf(right, tag.Value(noise(2)))
		if s.Digest(3) != tag.Inner(l, r) || s.Node(3) != (api.Node{Kind: api.Inner, Left: l, Right: r}) {
			t.Errorf("parted at %d: Digest %x, Node %x", part, s.Digest(3), s.Node(3))
		}
		root := api.ErrArg
		if part == 0 {
			root = api.OK
		}
		if s.Root(3) != root {
			t.Errorf("parted at %d: Root = %d", part, s.Root(3))
		}
	}
}

// pairAt makes the inner node of two leaves whose keys part at the depth d, below a key's first bits.
func pairAt(t testing.TB, s *store.Store, top api.Path, d int) int {
	t.Helper()
	zero, one := top, top
	zero[d/8] &^= 1 << (7 - d%8)
	one[d/8] |= 1 << (7 - d%8)
	left, _ := s.Leaf(zero, nil)
	right, _ := s.Leaf(one, nil)
	h, e := s.Inner(d, left, right)
	if e != api.OK {
		t.Fatalf("Inner(%d, %d, %d) = %d", d, left, right, e)
	}
	return h
}

// An inner node alone fits the depth just above its own, on the side that its bit there says.
func TestInnerNodeAlone(t *testing.T) {
	for _, top := range []api.Path{{}, api.Path(bytes.Repeat([]byte{0xff}, 32)), api.Path(bytes.Repeat([]byte{0xa5}, 32))} {
		for depth := range 256 {
			s := fresh(t, 4)
			h := pairAt(t, s, top, depth)
			before := told(s)
			for d := range 256 {
				onLeft := d == depth-1 && digits(top)[d] == '0'
				onRight := d == depth-1 && digits(top)[d] == '1'
				if !onLeft {
					refused(t, s, d, h, 0, api.ErrArg)
				}
				if !onRight {
					refused(t, s, d, 0, h, api.ErrArg)
				}
			}
			if told(s) != before {
				t.Errorf("depth %d: what is refused changes the store", depth)
			}
			if depth == 0 {
				continue
			}
			sides := [2]int{h, 0}
			digests := [2]api.Hash{s.Digest(h), tag.Empty()}
			if digits(top)[depth-1] == '1' {
				sides, digests = [2]int{0, h}, [2]api.Hash{tag.Empty(), s.Digest(h)}
			}
			inner(t, s, depth-1, sides[0], sides[1], 4)
			if left, right := s.Sides(4); left != sides[0] || right != sides[1] || s.Digest(4) != tag.Inner(digests[0], digests[1]) {
				t.Errorf("depth %d: Sides %d, %d, Digest %x", depth-1, left, right, s.Digest(4))
			}
			if s.Size(4) != 2 || s.Node(4) != (api.Node{Kind: api.Inner, Left: digests[0], Right: digests[1]}) || digits(s.Key(4))[:depth-1] != digits(top)[:depth-1] {
				t.Errorf("depth %d: Size %d, Node %x, Key %x", depth-1, s.Size(4), s.Node(4), s.Key(4))
			}
		}
	}
}

func TestLeafAlone(t *testing.T) {
	s := fresh(t, 3)
	leaf(t, s, keyZ, noise(2), 1)
	leaf(t, s, api.Path(bytes.Repeat([]byte{0xff}, 32)), nil, 2)
	for d := range 256 {
		for h := 1; h <= 2; h++ {
			notInner(t, s, d, h, 0, api.ErrArg)
			notInner(t, s, d, 0, h, api.ErrArg)
		}
		notInner(t, s, d, 0, 0, api.ErrArg)
	}
}

// Sides that are right by their own bits, but not by those ahead of them.
func TestFirstBitsThatAreUnlike(t *testing.T) {
	s := fresh(t, 20)
	leaf(t, s, keyZ, nil, 1)
	leaf(t, s, api.Path{0: 128, 31: 1}, nil, 2)
	notInner(t, s, 255, 1, 2, api.ErrArg)
	leaf(t, s, api.Path{0: 192}, nil, 3)
	notInner(t, s, 1, 1, 3, api.ErrArg)
	notInner(t, s, 255, 1, 3, api.ErrArg)
	low := pairAt(t, s, api.Path{}, 2)         // 00
	high := pairAt(t, s, api.Path{0: 0xc0}, 2) // 11
	notInner(t, s, 1, low, high, api.ErrArg)
	notInner(t, s, 1, low, 3, api.ErrArg)
	notInner(t, s, 1, 1, high, api.ErrArg)
	notInner(t, s, 0, low, high, api.ErrArg) // two deeper than the depth
	notInner(t, s, 0, 1, high, api.ErrArg)
	leaf(t, s, api.Path{0: 64}, nil, 10)
	inner(t, s, 1, low, 10, 11)
	inner(t, s, 0, 11, 3, 12)
	if s.Size(12) != 4 || s.Root(12) != api.OK || s.Root(11) != api.ErrArg {
		t.Errorf("Size %d, Root %d", s.Size(12), s.Root(12))
	}
}

func TestSameHandleTwice(t *testing.T) {
	s := fresh(t, 6)
	leaf(t, s, keyZ, nil, 1)
	hold(t, s, 1)
	hold(t, s, 1)
	h := pairAt(t, s, keyY, 5)
	hold(t, s, h)
	for d := range 256 {
		notInner(t, s, d, 1, 1, api.ErrArg)
		notInner(t, s, d, h, h, api.ErrArg)
	}
	counts(t, s, 1, 3, 3)
	counts(t, s, h, 2, 2)
}

func TestSidesThatNobodyHolds(t *testing.T) {
	s := fresh(t, 8)
	leaf(t, s, keyZ, nil, 1)
	leaf(t, s, keyX, nil, 2)
	leaf(t, s, keyY, nil, 3)
	inner(t, s, 1, 1, 2, 4)
	for _, h := range append([]int{1, 2, 5, 8, 9}, strange...) {
		notInner(t, s, 0, h, 3, api.ErrMissing)
		notInner(t, s, 0, 4, h, api.ErrMissing)
		notInner(t, s, 0, h, 0, api.ErrMissing)
		notInner(t, s, 0, 0, h, api.ErrMissing)
		notInner(t, s, 0, h, h, api.ErrMissing)
		notInner(t, s, 255, 3, h, api.ErrMissing) // they would not fit, either
		if n, e := s.Drop(h); n != 0 || e != api.ErrMissing {
			t.Errorf("Drop(%d) = %d, %d", h, n, e)
		}
	}
	inner(t, s, 0, 4, 3, 5)
	notInner(t, s, 0, 4, 3, api.ErrMissing)
	hold(t, s, 3)
	notInner(t, s, 0, 4, 3, api.ErrMissing)
	hold(t, s, 4)
	inner(t, s, 0, 4, 3, 6)
	counts(t, s, 3, 2, 0)
	counts(t, s, 4, 2, 0)
	drop(t, s, 5, 1)
	for _, h := range []int{5, 3, 4} {
		notInner(t, s, 0, h, 0, api.ErrMissing)
	}
}

// Which error comes first: of a full store, too, sides are told to be missing, then not to fit.
func TestWhichErrorComesFirst(t *testing.T) {
	s := fresh(t, 3)
	leaf(t, s, keyZ, nil, 1)
	leaf(t, s, keyX, nil, 2)
	leaf(t, s, keyY, nil, 3)
	for _, x := range []struct {
		d, left, right int
		want           api.Errno
	}{
		{-1, 9, 9, api.ErrArg}, {256, 1, 3, api.ErrArg}, {256, 9, 3, api.ErrArg},
		{0, 9, 3, api.ErrMissing}, {0, 3, 9, api.ErrMissing}, {0, 1, 4, api.ErrMissing}, {0, 0, -1, api.ErrMissing}, {255, -1, 0, api.ErrMissing},
		{0, 0, 0, api.ErrArg}, {0, 1, 0, api.ErrArg}, {0, 0, 3, api.ErrArg}, {0, 3, 1, api.ErrArg}, {0, 1, 2, api.ErrArg}, {1, 1, 3, api.ErrArg}, {0, 1, 1, api.ErrArg},
		{0, 1, 3, api.ErrStoreFull}, {1, 1, 2, api.ErrStoreFull}, {0, 2, 3, api.ErrStoreFull},
	} {
		notInner(t, s, x.d, x.left, x.right, x.want)
	}
	for h := 1; h <= 3; h++ {
		counts(t, s, h, 1, 1)
	}
	drop(t, s, 2, 1)
	inner(t, s, 0, 1, 3, 2)
	notInner(t, s, 0, 1, 3, api.ErrMissing)
}

// A hold of callers' becomes the node's: the count stays.
func TestHoldsGoOverToTheNode(t *testing.T) {
	s := fresh(t, 5)
	leaf(t, s, keyZ, nil, 1)
	leaf(t, s, keyY, nil, 2)
	hold(t, s, 1)
	hold(t, s, 1)
	counts(t, s, 1, 3, 3)
	inner(t, s, 0, 1, 2, 3)
	counts(t, s, 1, 3, 2)
	counts(t, s, 2, 1, 0)
	counts(t, s, 3, 1, 1)
	hold(t, s, 2)
	inner(t, s, 0, 1, 2, 4)
	counts(t, s, 1, 3, 1)
	counts(t, s, 2, 2, 0)
	if s.Digest(3) != s.Digest(4) {
		t.Error("two inner nodes of the same sides have unlike digests")
	}
	drop(t, s, 3, 1)
	counts(t, s, 1, 2, 1)
	counts(t, s, 2, 1, 0)
	drop(t, s, 1, 0)
	counts(t, s, 1, 1, 0)
	if n, e := s.Drop(1); n != 0 || e != api.ErrMissing {
		t.Errorf("Drop of a node that only a node holds = %d, %d", n, e)
	}
	hold(t, s, 4)
	drop(t, s, 4, 0)
	drop(t, s, 4, 3)
	if s.Occupied() != 0 {
		t.Errorf("Occupied = %d", s.Occupied())
	}
}

func TestHandlesThatAreNoNodes(t *testing.T) {
	s := fresh(t, 6)
	leaf(t, s, keyZ, noise(3), 1)
	leaf(t, s, keyY, noise(4), 2)
	inner(t, s, 0, 1, 2, 3)
	leaf(t, s, keyX, noise(5), 4)
	drop(t, s, 4, 1)
	for _, h := range append([]int{0, 4, 5, 6, 7}, strange...) {
		nothing(t, s, h)
	}
	drop(t, s, 3, 3)
	for h := range 8 {
		nothing(t, s, h)
	}
}

// A count at its greatest, and one below: sides of nodes count as callers' holds do.
func TestGreatestCount(t *testing.T) {
	if testing.Short() {
		t.Skip("holds a node 2^30 times")
	}
	const most = 1 << 30
	s := fresh(t, 4)
	leaf(t, s, keyZ, nil, 1)
	leaf(t, s, keyY, nil, 2)
	for n := 1; n < most-1; n++ {
		if e := s.Hold(1); e != api.OK {
			t.Fatalf("Hold of a count of %d = %d", n, e)
		}
	}
	counts(t, s, 1, most-1, most-1)
	hold(t, s, 1)
	atMost := func(held int) {
		t.Helper()
		for range 2 {
			counts(t, s, 1, most, held)
			if e := s.Hold(1); e != api.ErrLong {
				t.Errorf("Hold of a count of 2^30 = %d", e)
			}
		}
	}
	atMost(most)
	inner(t, s, 0, 1, 2, 3)
	atMost(most - 1)
	hold(t, s, 2)
	hold(t, s, 3)
	drop(t, s, 3, 0)
	inner(t, s, 0, 1, 2, 4)
	atMost(most - 2)
	drop(t, s, 1, 0)
	counts(t, s, 1, most-1, most-3)
	hold(t, s, 1)
	atMost(most - 2)
	drop(t, s, 4, 1)
	counts(t, s, 1, most-1, most-2)
	hold(t, s, 1)
	atMost(most - 1)
	drop(t, s, 3, 2)
	counts(t, s, 1, most-1, most-1)
}

// none tells stores that New did not answer.
func none(t *testing.T) map[string]*store.Store {
	t.Helper()
	some := func() *store.Store {
		s := fresh(t, 5)
		leaf(t, s, keyZ, noise(3), 1)
		leaf(t, s, keyY, noise(4), 2)
		inner(t, s, 0, 1, 2, 3)
		leaf(t, s, keyX, noise(5), 4)
		return s
	}
	copied := *some()
	over := some()
	*over = *some()
	emptied := some()
	*emptied = store.Store{}
	return map[string]*store.Store{
		"nil": nil, "a plain one": {}, "a new one": new(store.Store), "a copy": &copied, "one written over": over, "one emptied": emptied,
	}
}

func TestStoresThatNewDidNotAnswer(t *testing.T) {
	for when, s := range none(t) {
		for _, value := range [][]byte{nil, noise(5), noise(1024), noise(1025)} {
			if h, e := s.Leaf(keyY, value); h != 0 || e != api.ErrNil {
				t.Errorf("%s: Leaf = %d, %d", when, h, e)
			}
		}
		for _, x := range [][3]int{{0, 1, 2}, {0, 0, 0}, {-1, 1, 2}, {256, 9, 9}, {1, 1, 4}, {0, 4, 3}, {0, 9, -1}} {
			if h, e := s.Inner(x[0], x[1], x[2]); h != 0 || e != api.ErrNil {
				t.Errorf("%s: Inner(%v) = %d, %d", when, x, h, e)
			}
		}
		if s.Occupied() != 0 || s.Room() != 0 || len(s.Handles()) != 0 {
			t.Errorf("%s: Occupied %d, Room %d, Handles %v", when, s.Occupied(), s.Room(), s.Handles())
		}
		for _, h := range append([]int{0, 1, 2, 3, 4, 5, 6}, strange...) {
			asksNone(t, when, s, h)
		}
	}
}

// asksNone asks each method that takes a handle of a store that New did not answer.
func asksNone(t *testing.T, when string, s *store.Store, h int) {
	t.Helper()
	if e := s.Hold(h); e != api.ErrNil {
		t.Errorf("%s: Hold(%d) = %d", when, h, e)
	}
	if n, e := s.Drop(h); n != 0 || e != api.ErrNil {
		t.Errorf("%s: Drop(%d) = %d, %d", when, h, n, e)
	}
	if e := s.Root(h); e != api.ErrNil {
		t.Errorf("%s: Root(%d) = %d", when, h, e)
	}
	left, right := s.Sides(h)
	if s.Has(h) || s.Kind(h) != 0 || s.Depth(h) != 0 || s.Size(h) != 0 || s.Count(h) != 0 || s.Held(h) != 0 || left != 0 || right != 0 {
		t.Errorf("%s: handle %d: %t %d %d %d %d %d %d %d", when, h, s.Has(h), s.Kind(h), s.Depth(h), s.Size(h), s.Count(h), s.Held(h), left, right)
	}
	if s.Key(h) != (api.Path{}) || len(s.Value(h)) != 0 || s.Digest(h) != (api.Hash{}) || s.Node(h) != (api.Node{}) {
		t.Errorf("%s: handle %d: %x %x %x %x", when, h, s.Key(h), s.Value(h), s.Digest(h), s.Node(h))
	}
}

// What is asked of a copy does nothing to the store that it was made of.
func TestCopyLeavesTheStore(t *testing.T) {
	s := fresh(t, 4)
	leaf(t, s, keyZ, noise(3), 1)
	leaf(t, s, keyY, noise(4), 2)
	before := told(s)
	copied := *s
	copied.Leaf(keyX, nil)
	copied.Inner(0, 1, 2)
	for h := range 4 {
		asksNone(t, "a copy", &copied, h)
	}
	if told(s) != before {
		t.Error("what is asked of a copy shows in the store")
	}
	inner(t, s, 0, 1, 2, 3)
}

// A value that was handed in is not kept, not changed, and nothing behind its end is read.
func TestValueIsNotKept(t *testing.T) {
	s := fresh(t, 8)
	for i, n := range []int{0, 1, 2, 100, 1023, 1024} {
		h := i + 1
		room := noise(n + 50)
		value := room[:n]
		leaf(t, s, keyX, value, h)
		if !bytes.Equal(room, noise(n+50)) {
			t.Errorf("Leaf changes a value of %d bytes, or what is behind it", n)
		}
		before := told(s)
		scribble(room)
		if told(s) != before || !bytes.Equal(s.Value(h), noise(n)) {
			t.Errorf("Leaf keeps a value of %d bytes", n)
		}
	}
}

func TestAnswersAreNewMemory(t *testing.T) {
	s := fresh(t, 8)
	for i, n := range []int{0, 1, 31, 100, 1024} {
		leaf(t, s, api.Path{31: byte(2 * i)}, noise(n), i+1)
	}
	before := told(s)
	for h := 1; h <= 5; h++ {
		one, two := s.Value(h), s.Value(h)
		scribble(one)
		_ = append(one, 1, 2, 3)
		if want := []int{0, 0, 1, 31, 100, 1024}[h]; !bytes.Equal(two, noise(want)) {
			t.Errorf("two values of the handle %d share memory", h)
		}
	}
	one, two := s.Handles(), s.Handles()
	for i := range one[:cap(one)] {
		one[:cap(one)][i] = -7
	}
	if !slices.Equal(two, []int{1, 2, 3, 4, 5}) {
		t.Errorf("two lists of handles share memory: %v", two)
	}
	key, node := s.Key(5), s.Node(5)
	scribble(key[:])
	scribble(node.Key[:])
	scribble(node.Value[:])
	digest := s.Digest(5)
	scribble(digest[:])
	if told(s) != before {
		t.Error("what was answered is the store's own")
	}
	leaf(t, s, keyY, nil, 6)
	if !slices.Equal(two, []int{1, 2, 3, 4, 5}) {
		t.Errorf("a list of handles changes behind its call: %v", two)
	}
}

// An answer stays as it is when its node is gone and its slot taken anew.
func TestAnswersStay(t *testing.T) {
	s := fresh(t, 1)
	leaf(t, s, keyX, noise(40), 1)
	value := s.Value(1)
	drop(t, s, 1, 1)
	if !bytes.Equal(value, noise(40)) {
		t.Error("Drop changes a value that was told")
	}
	leaf(t, s, keyX, make([]byte, 40), 1)
	if !bytes.Equal(value, noise(40)) {
		t.Error("Leaf changes a value that was told")
	}
}
