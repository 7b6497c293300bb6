package audit_test

import (
	"bytes"
	"fmt"
	"math"
	"slices"
	"testing"

	"rootcellar/api"
	"rootcellar/audit"
	"rootcellar/batch"
	"rootcellar/sha"
	"rootcellar/store"
)

// The keys of the document's examples.
var (
	keyZ = api.Path{}
	keyO = api.Path{31: 1}
	keyX = api.Path{0: 64}
	keyY = api.Path{0: 128}
	keyN = api.Path(bytes.Repeat([]byte{0xff}, 32)) // the last key
)

// strange are handles that are no node's in any store of a room below 60,000.
var strange = []int{-1, -2, -3, 60000, 65536, 65537, 1 << 32, 1<<32 + 1, -1<<32 + 1, math.MaxInt32, math.MinInt32, math.MaxInt, math.MinInt, math.MinInt + 1}

// noise is a text of n bytes, no two neighbours alike.
func noise(n int) []byte {
	b := make([]byte, n)
	for i := range b {
		b[i] = byte(7*i + 3)
	}
	return b
}

// flip turns a key's bit.
func flip(k api.Path, d int) api.Path {
	k[d/8] ^= 1 << (7 - d%8)
	return k
}

// scattered keys are digests; near ones part at the last bits; a ladder's each part from the way of noughts one bit deeper.
func scattered(i int) api.Path { return api.Path(sha.Sum([]byte{byte(i), byte(i >> 8)})) }

func near(i int) api.Path { return api.Path{30: byte(i >> 8), 31: byte(i)} }

func ladder(i int) api.Path { return flip(api.Path{}, i) }

// kinds of keys, by name.
var kinds = map[string]func(int) api.Path{"scattered": scattered, "near": near, "a ladder": ladder}

// set is a write of a value of so many bytes, gone one that deletes.
func set(key api.Path, n int) api.Write { return api.Write{Key: key, Value: noise(n)} }

func gone(key api.Path) api.Write { return api.Write{Key: key, Gone: true} }

// many makes n writes with keys that a function tells.
func many(n int, key func(int) api.Path) []api.Write {
	var l []api.Write
	for i := range n {
		l = append(l, set(key(i), i%40))
	}
	return l
}

// fresh makes a store of a room that may be.
func fresh(t testing.TB, room int) *store.Store {
	t.Helper()
	s, e := store.New(room)
	if s == nil || e != api.OK {
		t.Fatalf("New(%d) = %v, %d", room, s, e)
	}
	return s
}

func leaf(t testing.TB, s *store.Store, key api.Path, value []byte) int {
	t.Helper()
	h, e := s.Leaf(key, value)
	if e != api.OK {
		t.Fatalf("Leaf(%x, %d bytes) = %d", key, len(value), e)
	}
	return h
}

func inner(t testing.TB, s *store.Store, d, left, right int) int {
	t.Helper()
	h, e := s.Inner(d, left, right)
	if e != api.OK {
		t.Fatalf("Inner(%d, %d, %d) = %d", d, left, right, e)
	}
	return h
}

func hold(t testing.TB, s *store.Store, h int) {
	t.Helper()
	if e := s.Hold(h); e != api.OK {
		t.Fatalf("Hold(%d) = %d", h, e)
	}
}

func letGo(t testing.TB, s *store.Store, h int) {
	t.Helper()
	if _, e := s.Drop(h); e != api.OK {
		t.Fatalf("Drop(%d) = %d", h, e)
	}
}

// grown applies writes, some at a time.
func grown(t testing.TB, s *store.Store, root int, l ...api.Write) int {
	t.Helper()
	for part := range slices.Chunk(l, 64) {
		next, e := batch.Apply(s, root, part)
		if e != api.OK {
			t.Fatalf("Apply(%d, %d writes) = %d", root, len(part), e)
		}
		root = next
	}
	return root
}

// finds sees that Check answers just these findings.
func finds(t testing.TB, when string, s *store.Store, roots []int, want ...api.Finding) {
	t.Helper()
	audited(t, when, s, roots)
	if l, e := audit.Check(s, roots); !slices.Equal(l, want) || e != api.OK {
		t.Errorf("%s: Check(%v) = %v, %d, not %v", when, roots, l, e, want)
	}
}

// tells sees that Reached and Lost answer just these handles, and Shared this number.
func tells(t testing.TB, when string, s *store.Store, roots, reached, lost []int, shared int) {
	t.Helper()
	audited(t, when, s, roots)
	if l, e := audit.Reached(s, roots); !slices.Equal(l, reached) || e != api.OK {
		t.Errorf("%s: Reached(%v) = %v, %d, not %v", when, roots, l, e, reached)
	}
	if l, e := audit.Lost(s, roots); !slices.Equal(l, lost) || e != api.OK {
		t.Errorf("%s: Lost(%v) = %v, %d, not %v", when, roots, l, e, lost)
	}
	if n, e := audit.Shared(s, roots); n != shared || e != api.OK {
		t.Errorf("%s: Shared(%v) = %d, %d, not %d", when, roots, n, e, shared)
	}
}

func finding(h, want, have int) api.Finding { return api.Finding{Handle: h, Want: want, Have: have} }

// The examples of the chapter: a root of two leaves, held once.
func TestExamples(t *testing.T) {
	s := fresh(t, 600)
	root := inner(t, s, 0, leaf(t, s, keyZ, nil), leaf(t, s, keyY, nil))
	finds(t, "it", s, []int{root})
	finds(t, "none", s, nil, finding(1, 0, 1), finding(2, 0, 1), finding(3, 0, 1))
	finds(t, "it twice over", s, []int{root, root}, finding(root, 2, 1))
	tells(t, "it", s, []int{root}, []int{1, 2, 3}, nil, 0)
	tells(t, "it twice over", s, []int{root, root}, []int{1, 2, 3}, nil, 1)
	refuses(t, "65 roots", s, make([]int, 65), api.ErrLong)
	refuses(t, "a root that is none", s, []int{99}, api.ErrMissing)
}

// A store without nodes has none to find, to reach, to lose.
func TestStoreWithoutNodes(t *testing.T) {
	s := fresh(t, 5)
	for _, roots := range [][]int{nil, {}, {0}, {0, 0}, make([]int, 64)} {
		finds(t, "no nodes", s, roots)
		tells(t, "no nodes", s, roots, nil, nil, 0)
	}
	if ok, e := audit.Sound(s, 0); !ok || e != api.OK {
		t.Errorf("no nodes: Sound(0) = %t, %d", ok, e)
	}
}

// By no roots, and by 0 as often as may be, nothing is reached: all that is there is lost, and found.
func TestRootsThatReachNothing(t *testing.T) {
	s := fresh(t, 20)
	low := inner(t, s, 1, leaf(t, s, keyZ, nil), leaf(t, s, keyX, nil))
	root := inner(t, s, 0, low, leaf(t, s, keyY, nil))
	hold(t, s, 1)
	lone := leaf(t, s, keyN, nil)
	for _, roots := range [][]int{nil, {}, {0}, {0, 0}, make([]int, 64)} {
		finds(t, "nothing", s, roots, finding(1, 0, 2), finding(2, 0, 1), finding(low, 0, 1), finding(4, 0, 1), finding(root, 0, 1), finding(lone, 0, 1))
		tells(t, "nothing", s, roots, nil, []int{1, 2, low, 4, root, lone}, 0)
	}
	finds(t, "0 among others", s, []int{0, root, 0, 1, lone, 0})
	tells(t, "0 among others", s, []int{0, root, 0, 1, lone, 0}, []int{1, 2, low, 4, root, lone}, nil, 1)
}

// A leaf for a root: of its own, and as a side of nodes.
func TestLeavesForRoots(t *testing.T) {
	s := fresh(t, 600)
	z := leaf(t, s, keyZ, noise(3))
	finds(t, "a leaf", s, []int{z})
	tells(t, "a leaf", s, []int{z}, []int{z}, nil, 0)
	hold(t, s, z)
	y := leaf(t, s, keyY, nil)
	root := inner(t, s, 0, z, y)
	finds(t, "a leaf and a node above it", s, []int{z, root})
	tells(t, "a leaf and a node above it", s, []int{z, root}, []int{z, y, root}, nil, 1)
	finds(t, "a leaf alone", s, []int{z}, finding(z, 1, 2), finding(y, 0, 1), finding(root, 0, 1))
	tells(t, "a leaf alone", s, []int{z}, []int{z}, []int{y, root}, 0)
	finds(t, "the node alone", s, []int{root}, finding(z, 1, 2))
	finds(t, "the leaf twice", s, []int{z, root, z}, finding(z, 3, 2))
	finds(t, "a leaf that no caller holds", s, []int{root, z, y}, finding(y, 2, 1))
}

// A root that stands n times in the list is wanted n times, and what is below it once.
func TestRootManyTimesOver(t *testing.T) {
	s := fresh(t, 1100)
	root := grown(t, s, 0, set(keyZ, 1), set(keyO, 2), set(keyX, 3), set(keyY, 4))
	for n := 1; n <= 64; n++ {
		roots := slices.Repeat([]int{root}, n)
		var found []api.Finding
		shared := 0
		if n > 1 {
			found, shared = []api.Finding{finding(root, n, 1)}, 1
		}
		finds(t, "held once", s, roots, found...)
		tells(t, "held once", s, roots, s.Handles(), nil, shared)
	}
	for n := 1; n <= 64; n++ {
		finds(t, "held as often", s, slices.Repeat([]int{root}, n))
		if n > 1 {
			finds(t, "held more often", s, slices.Repeat([]int{root}, n-1), finding(root, n-1, n))
			finds(t, "held more often", s, []int{root}, finding(root, 1, n))
		}
		hold(t, s, root)
	}
	refuses(t, "65 times over", s, slices.Repeat([]int{root}, 65), api.ErrLong)
}

// Versions that share nodes, by hand: what is wanted, what is shared, what is lost of each of the lists.
func TestVersionsThatShareNodes(t *testing.T) {
	s := fresh(t, 600)
	z, x, y := leaf(t, s, keyZ, nil), leaf(t, s, keyX, nil), leaf(t, s, keyY, nil)
	low := inner(t, s, 1, z, x)   // 4
	one := inner(t, s, 0, low, y) // 5
	hold(t, s, low)
	other := leaf(t, s, keyY, noise(1)) // 6
	two := inner(t, s, 0, low, other)   // 7
	hold(t, s, z)
	hold(t, s, y)
	three := inner(t, s, 0, z, y) // 8
	finds(t, "all", s, []int{one, two, three})
	tells(t, "all", s, []int{three, two, one}, []int{1, 2, 3, 4, 5, 6, 7, 8}, nil, 3)
	finds(t, "one", s, []int{one}, finding(z, 1, 2), finding(y, 1, 2), finding(low, 1, 2), finding(other, 0, 1), finding(two, 0, 1), finding(three, 0, 1))
	tells(t, "one", s, []int{one}, []int{z, x, y, low, one}, []int{other, two, three}, 0)
	finds(t, "two", s, []int{two}, finding(z, 1, 2), finding(y, 0, 2), finding(low, 1, 2), finding(one, 0, 1), finding(three, 0, 1))
	tells(t, "two", s, []int{two}, []int{z, x, low, other, two}, []int{y, one, three}, 0)
	finds(t, "three", s, []int{three}, finding(z, 1, 2), finding(x, 0, 1), finding(y, 1, 2), finding(low, 0, 2), finding(one, 0, 1), finding(other, 0, 1), finding(two, 0, 1))
}

// Nodes that callers hold more often than the list says, and less often.
func TestHoldsOfCallers(t *testing.T) {
	s := fresh(t, 600)
	low := inner(t, s, 1, leaf(t, s, keyZ, nil), leaf(t, s, keyX, nil))
	root := inner(t, s, 0, low, leaf(t, s, keyY, nil))
	for n := 1; n <= 5; n++ {
		hold(t, s, low) // it is no root: nothing in a list can say that callers hold it
		finds(t, "an inner node", s, []int{root}, finding(low, 1, 1+n))
		tells(t, "an inner node", s, []int{root}, []int{1, 2, low, 4, root}, nil, 0)
	}
	hold(t, s, 4)
	finds(t, "a leaf", s, []int{root}, finding(low, 1, 6), finding(4, 1, 2))
	finds(t, "a leaf, said", s, []int{root, 4}, finding(low, 1, 6))
	finds(t, "a leaf, said too often", s, []int{4, root, 4, 4}, finding(low, 1, 6), finding(4, 4, 2))
	letGo(t, s, root)
	finds(t, "what is left", s, []int{4}, finding(1, 0, 1), finding(2, 0, 1), finding(low, 0, 5))
	tells(t, "what is left", s, []int{4}, []int{4}, []int{1, 2, low}, 0)
}

// Nodes at which what is not reached points: above what is said, just that, and below it, where callers hold them less often than the list says.
func TestSidesOfWhatIsNotReached(t *testing.T) {
	s := fresh(t, 20)
	z := leaf(t, s, keyZ, nil)
	for i := range 3 { // three nodes that no root reaches
		hold(t, s, z)
		inner(t, s, 0, z, leaf(t, s, keyY, noise(i)))
	}
	letGo(t, s, z) // callers hold it no more
	others := []api.Finding{finding(2, 0, 1), finding(3, 0, 1), finding(4, 0, 1), finding(5, 0, 1), finding(6, 0, 1), finding(7, 0, 1)}
	for n := range 8 {
		want := others
		if n != 3 { // wanted three times by the list, held three times by what is not reached: no finding
			want = append([]api.Finding{finding(z, n, 3)}, others...)
		}
		finds(t, fmt.Sprint(n, " times in the list"), s, slices.Repeat([]int{z}, n), want...)
	}
}

// Up to 64 roots are taken, and no 65, be they what they may.
func TestNumberOfRoots(t *testing.T) {
	s := fresh(t, 60000)
	root := grown(t, s, 0, many(40, scattered)...)
	all := []int{root}
	for i := 1; i < 66; i++ { // versions that share all but a way
		hold(t, s, root)
		all = append(all, grown(t, s, root, set(scattered(i%50), 100+i)))
	}
	for _, n := range []int{0, 1, 2, 63, 64} {
		audited(t, "versions", s, all[:n])
		audited(t, "noughts", s, make([]int, n))
		audited(t, "one", s, slices.Repeat(all[:1], n))
	}
	for _, n := range []int{65, 66, 128, 1000, 65536} {
		for _, h := range append([]int{0, root, root + 1}, strange...) {
			refuses(t, "too many", s, slices.Repeat([]int{h}, n), api.ErrLong)
		}
	}
	refuses(t, "too many", s, all[:65], api.ErrLong)
	for _, h := range all[64:] {
		letGo(t, s, h)
	}
	finds(t, "64 versions", s, all[:64])
	tells(t, "64 versions", s, all[:64], s.Handles(), nil, sharedBy(s, all[:64]))
	if n := sharedBy(s, all[:64]); n < 40 {
		t.Errorf("64 versions share %d nodes", n)
	}
}

// Roots that are refused, wherever they stand.
func TestRootsThatAreNone(t *testing.T) {
	s := fresh(t, 600)
	low := inner(t, s, 1, leaf(t, s, keyZ, nil), leaf(t, s, keyX, nil))
	root := inner(t, s, 0, low, leaf(t, s, keyY, nil))
	free := leaf(t, s, keyN, nil)
	letGo(t, s, free)
	bad := map[int]api.Errno{low: api.ErrArg, free: api.ErrMissing, 7: api.ErrMissing, 599: api.ErrMissing, 600: api.ErrMissing, 601: api.ErrMissing}
	for _, h := range strange {
		bad[h] = api.ErrMissing
	}
	for h, want := range bad {
		refuses(t, "alone", s, []int{h}, want)
		refuses(t, "first", s, []int{h, root, 0, 1}, want)
		refuses(t, "in the midst", s, []int{root, 0, h, 1}, want)
		refuses(t, "last", s, []int{0, 1, root, h}, want)
		refuses(t, "the last of 64", s, append(make([]int, 63), h), want)
		for other, behind := range bad { // the first one's error
			refuses(t, "two of them", s, []int{0, h, other}, want)
			refuses(t, "two of them", s, []int{other, root, h, 0}, behind)
		}
	}
	hold(t, s, low)
	refuses(t, "callers hold it", s, []int{root, low}, api.ErrArg)
	letGo(t, s, root)
	refuses(t, "a root that became free", s, []int{root}, api.ErrMissing)
	refuses(t, "a root that became free, behind", s, []int{low, root}, api.ErrArg)
	refuses(t, "a root that became free, ahead", s, []int{root, low}, api.ErrMissing)
	refuses(t, "a leaf that became free", s, []int{1, 4, 2}, api.ErrMissing)
	audited(t, "those that are left", s, []int{1, 2, 0})
}

// An inner node of each depth: only that of depth 0 is a root.
func TestInnerNodesOfEachDepth(t *testing.T) {
	for d := range 256 {
		s := fresh(t, 600)
		h := inner(t, s, d, leaf(t, s, keyZ, nil), leaf(t, s, flip(keyZ, d), nil))
		if d > 0 {
			refuses(t, fmt.Sprint("depth ", d), s, []int{h}, api.ErrArg)
			finds(t, "none", s, nil, finding(1, 0, 1), finding(2, 0, 1), finding(3, 0, 1))
			continue
		}
		finds(t, "depth 0", s, []int{h})
	}
}

// The order of errors: ErrNil, ErrLong, store.Root's.
func TestOrderOfErrors(t *testing.T) {
	s := fresh(t, 600)
	low := inner(t, s, 1, leaf(t, s, keyZ, nil), leaf(t, s, keyX, nil))
	for _, roots := range [][]int{slices.Repeat([]int{low}, 65), slices.Repeat([]int{99}, 65), append([]int{low, 99}, make([]int, 63)...), append([]int{99, low}, make([]int, 63)...)} {
		refuses(t, "nil", nil, roots, api.ErrNil)
		refuses(t, "not New's", new(store.Store), roots, api.ErrNil)
		refuses(t, "too many", s, roots, api.ErrLong)
		refuses(t, "just as many", s, roots[:64], s.Root(roots[0]))
	}
}

// none tells stores that New did not answer.
func none(t *testing.T) map[string]*store.Store {
	t.Helper()
	used := func() *store.Store {
		s := fresh(t, 600)
		grown(t, s, 0, set(keyZ, 0), set(keyY, 0))
		return s
	}
	copied := *used()
	over := used()
	*over = *used()
	emptied := used()
	*emptied = store.Store{}
	return map[string]*store.Store{
		"nil": nil, "a plain one": {}, "a new one": new(store.Store), "a copy": &copied, "one written over": over, "one emptied": emptied,
	}
}

func TestStoresThatNewDidNotAnswer(t *testing.T) {
	for when, s := range none(t) {
		for _, roots := range [][]int{nil, {}, {0}, {1}, {3}, {3, 3}, {0, 3, 99}, make([]int, 64), make([]int, 65)} {
			refuses(t, when, s, roots, api.ErrNil)
		}
		for _, h := range append([]int{0, 1, 2, 3, 4}, strange...) {
			refuses(t, when, s, []int{h}, api.ErrNil)
		}
	}
}

// What is asked of a copy says nothing of the store that it was made of, and the other way round.
func TestCopyLeavesTheStore(t *testing.T) {
	s := fresh(t, 600)
	root := grown(t, s, 0, set(keyZ, 0), set(keyY, 0))
	copied := *s
	refuses(t, "a copy", &copied, []int{root}, api.ErrNil)
	finds(t, "the store itself", s, []int{root})
}

// What is told of one store hangs on no other one.
func TestStoresAreByThemselves(t *testing.T) {
	one, two := fresh(t, 600), fresh(t, 600)
	root := grown(t, one, 0, set(keyZ, 0), set(keyY, 0))
	refuses(t, "another one's root", two, []int{root}, api.ErrMissing)
	grown(t, two, 0, set(keyX, 5))
	finds(t, "the one", one, []int{root})
	finds(t, "the other", two, nil, finding(1, 0, 1))
	finds(t, "the other", two, []int{1})
}

// No call takes a slot or gives one back: the slots are taken in the same order behind any of them.
func TestOrderOfSlotsStays(t *testing.T) {
	var taken [2][]int
	for i := range taken {
		s := fresh(t, 1400)
		root := grown(t, s, 0, set(keyZ, 1), set(keyY, 2), set(keyX, 3), set(keyO, 4))
		root = grown(t, s, root, gone(keyO), gone(keyY))
		if i == 1 {
			audited(t, "as it is", s, []int{root})
			audited(t, "none", s, nil)
			refuses(t, "no root", s, []int{root, 1399}, api.ErrMissing)
			refuses(t, "too many", s, make([]int, 65), api.ErrLong)
		}
		for s.Occupied() < s.Room() {
			taken[i] = append(taken[i], leaf(t, s, keyN, nil))
		}
	}
	if !slices.Equal(taken[0], taken[1]) {
		t.Errorf("the slots are taken in another order: %v, not %v", taken[1], taken[0])
	}
}

func ExampleCheck() {
	s, _ := store.New(2000)
	root, _ := batch.Apply(s, 0, []api.Write{{Key: api.Path{}}, {Key: api.Path{0: 128}, Value: []byte("v")}})
	l, e := audit.Check(s, []int{root})
	fmt.Println(len(l), e == api.OK)
	s.Hold(root)
	l, _ = audit.Check(s, []int{root})
	fmt.Println(len(l), l[0].Handle == root, l[0].Want, l[0].Have)
	// Output:
	// 0 true
	// 1 true 1 2
}
