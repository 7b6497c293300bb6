package list_test

import (
	"bytes"
	"fmt"
	"math"
	"slices"
	"testing"

	"rootcellar/api"
	"rootcellar/batch"
	"rootcellar/list"
	"rootcellar/path"
	"rootcellar/sha"
	"rootcellar/store"
)

// The keys of the document's examples.
var (
	keyZ = api.Path{}
	keyO = api.Path{31: 1}
	keyX = api.Path{0: 64}
	keyY = api.Path{0: 128}
	keyN = api.Path(bytes.Repeat([]byte{0xff}, 32)) // the last key
)

// strange are handles that are no node's in any store of a room below 60,000.
var strange = []int{-1, -2, -3, 60000, 65536, 65537, 1 << 32, 1<<32 + 1, -1<<32 + 1, math.MaxInt32, math.MinInt32, math.MaxInt, math.MinInt, math.MinInt + 1}

// noise is a text of n bytes, no two neighbours alike.
func noise(n int) []byte {
	b := make([]byte, n)
	for i := range b {
		b[i] = byte(7*i + 3)
	}
	return b
}

// flip turns a key's bit.
func flip(k api.Path, d int) api.Path {
	k[d/8] ^= 1 << (7 - d%8)
	return k
}

// behind tells the key directly behind another one; the first one behind the last.
func behind(k api.Path) api.Path {
	for i := len(k) - 1; i >= 0; i-- {
		if k[i]++; k[i] != 0 {
			break
		}
	}
	return k
}

// ahead tells the key directly ahead of another one; the last one ahead of the first.
func ahead(k api.Path) api.Path {
	for i := len(k) - 1; i >= 0; i-- {
		if k[i]--; k[i] != 0xff {
			break
		}
	}
	return k
}

// scattered keys are digests; near ones part at the last bits; a ladder's each part from the way of noughts one bit deeper, a stair's from the way of ones.
func scattered(i int) api.Path { return api.Path(sha.Sum([]byte{byte(i), byte(i >> 8)})) }

func near(i int) api.Path { return api.Path{30: byte(i >> 8), 31: byte(i)} }

func ladder(i int) api.Path { return flip(keyZ, i%256) }

func stair(i int) api.Path { return flip(keyN, i%256) }

// kinds of keys, by name.
var kinds = map[string]func(int) api.Path{"scattered": scattered, "near": near, "a ladder": ladder, "a stair": stair}

// set is a write of a value of so many bytes, gone one that deletes.
func set(key api.Path, n int) api.Write { return api.Write{Key: key, Value: noise(n)} }

func gone(key api.Path) api.Write { return api.Write{Key: key, Gone: true} }

// many makes n writes with keys that a function tells.
func many(n int, key func(int) api.Path) []api.Write {
	var l []api.Write
	for i := range n {
		l = append(l, set(key(i), i%40))
	}
	return l
}

// fresh makes a store of a room that may be.
func fresh(t testing.TB, room int) *store.Store {
	t.Helper()
	s, e := store.New(room)
	if s == nil || e != api.OK {
		t.Fatalf("New(%d) = %v, %d", room, s, e)
	}
	return s
}

func leaf(t testing.TB, s *store.Store, key api.Path, value []byte) int {
	t.Helper()
	h, e := s.Leaf(key, value)
	if e != api.OK {
		t.Fatalf("Leaf(%x, %d bytes) = %d", key, len(value), e)
	}
	return h
}

func inner(t testing.TB, s *store.Store, d, left, right int) int {
	t.Helper()
	h, e := s.Inner(d, left, right)
	if e != api.OK {
		t.Fatalf("Inner(%d, %d, %d) = %d", d, left, right, e)
	}
	return h
}

func hold(t testing.TB, s *store.Store, h int) {
	t.Helper()
	if e := s.Hold(h); e != api.OK {
		t.Fatalf("Hold(%d) = %d", h, e)
	}
}

func letGo(t testing.TB, s *store.Store, h int) {
	t.Helper()
	if _, e := s.Drop(h); e != api.OK {
		t.Fatalf("Drop(%d) = %d", h, e)
	}
}

// grown applies writes, some at a time.
func grown(t testing.TB, s *store.Store, root int, l ...api.Write) int {
	t.Helper()
	for part := range slices.Chunk(l, 64) {
		next, e := batch.Apply(s, root, part)
		if e != api.OK {
			t.Fatalf("Apply(%d, %d writes) = %d", root, len(part), e)
		}
		root = next
	}
	return root
}

// pair is an entry with a text for its value.
func pair(key api.Path, value string) api.Pair { return api.Pair{Key: key, Value: []byte(value)} }

// abc makes the tree of the chapter's examples, and tells its entries.
func abc(t testing.TB) (*store.Store, int, []api.Pair) {
	t.Helper()
	s := fresh(t, 2000)
	l := []api.Pair{pair(keyZ, "a"), pair(keyX, "b"), pair(keyY, "c")}
	return s, grown(t, s, 0, writes(l)...), l
}

// writes tells those that make entries.
func writes(l []api.Pair) []api.Write {
	var w []api.Write
	for _, p := range l {
		w = append(w, api.Write{Key: p.Key, Value: p.Value})
	}
	return w
}

// The examples of the chapter.
func TestExamples(t *testing.T) {
	s, root, l := abc(t)
	if got := collect(list.All(s, root)); !alike(got, l) {
		t.Errorf("All = %v", got)
	}
	if got := collect(list.From(s, root, keyY)); !alike(got, l[2:]) {
		t.Errorf("From(Y) = %v", got)
	}
	count, e := list.Count(s, root)
	y, e1 := list.Rank(s, root, keyY)
	z, e2 := list.Rank(s, root, keyZ)
	if count != 3 || y != 2 || z != 0 || e != api.OK || e1 != api.OK || e2 != api.OK {
		t.Errorf("Count %d, %d; Rank of Y %d, %d, of Z %d, %d", count, e, y, e1, z, e2)
	}
	if p, e := list.Nth(s, root, 1); p.Key != keyX || string(p.Value) != "b" || e != api.OK {
		t.Errorf("Nth(1) = %v, %d", p, e)
	}
	if p, e := list.Nth(s, root, 3); p.Key != keyZ || p.Value != nil || e != api.ErrMissing {
		t.Errorf("Nth(3) = %v, %d", p, e)
	}
	if p, e := list.Nth(s, root, -1); p.Key != keyZ || p.Value != nil || e != api.ErrArg {
		t.Errorf("Nth(-1) = %v, %d", p, e)
	}
	if got, e := list.Some(s, root, keyZ, 2); !alike(got, l[:2]) || e != api.OK {
		t.Errorf("Some(Z, 2) = %v, %d", got, e)
	}
	next, _ := path.Next(keyX)
	if got, e := list.Some(s, root, next, 256); !alike(got, l[2:]) || e != api.OK {
		t.Errorf("Some(behind X, 256) = %v, %d", got, e)
	}
	if got, e := list.Some(s, root, next, 257); len(got) > 0 || e != api.ErrArg {
		t.Errorf("Some(behind X, 257) = %v, %d", got, e)
	}
	there, e := list.Between(s, root, keyZ, keyX)
	back, e1 := list.Between(s, root, keyX, keyZ)
	if there != 2 || back != 0 || e != api.OK || e1 != api.OK {
		t.Errorf("Between(Z, X) = %d, %d, Between(X, Z) = %d, %d", there, e, back, e1)
	}
	lists(t, "the examples", s, root, l)
}

// The empty tree has no entries, in a store without nodes and in one with others.
func TestRootOfNothing(t *testing.T) {
	s := fresh(t, 600)
	lists(t, "no nodes", s, 0, nil)
	grown(t, s, 0, set(keyZ, 3), set(keyO, 4))
	lists(t, "other nodes", s, 0, nil)
}

// A root that is one leaf: of any key, by itself, or below others, held by callers or not.
func TestRootOfOneLeaf(t *testing.T) {
	keys := []api.Path{keyZ, keyO, keyX, keyY, keyN, ahead(keyN), scattered(1), scattered(2), {15: 1}, {16: 0x80}}
	for _, key := range keys {
		for _, n := range []int{0, 1, 7, 1024} {
			s := fresh(t, 5)
			lists(t, "one leaf", s, leaf(t, s, key, noise(n)), []api.Pair{{Key: key, Value: noise(n)}})
		}
	}
	s := fresh(t, 4000)
	root := 0
	for i, key := range keys {
		root = grown(t, s, root, set(key, i))
	}
	for _, h := range s.Handles() {
		if s.Kind(h) == api.Leaf {
			lists(t, "a leaf below others", s, h, []api.Pair{{Key: s.Key(h), Value: s.Value(h)}})
		}
	}
}

// An inner root of two leaves that part at each of the depths, on either way.
func TestRootOfTwoLeaves(t *testing.T) {
	for d := range 256 {
		if testing.Short() && d%8 > 1 && d != 255 {
			continue
		}
		for _, key := range []api.Path{keyZ, keyN, scattered(d)} {
			s := fresh(t, 600)
			l := ordered([]api.Pair{{Key: key, Value: noise(1)}, {Key: flip(key, d), Value: noise(2)}})
			lists(t, fmt.Sprint("two leaves that part at ", d), s, grown(t, s, 0, writes(l)...), l)
		}
	}
}

// Roots of all lists of keys that differ in three bits, in the first byte, in one in the midst, in the last: each form that a tree of few bits may have.
func TestRootsOfAllForms(t *testing.T) {
	for place, shift := range map[int]int{0: 5, 13: 3, 31: 0} {
		for form := range 256 {
			if testing.Short() && form%5 > 0 {
				continue
			}
			var l []api.Pair
			for i := range 8 {
				if form>>i&1 == 1 {
					l = append(l, api.Pair{Key: keyAt(place, byte(i<<shift)), Value: noise(i)})
				}
			}
			s := fresh(t, 2500)
			lists(t, fmt.Sprintf("form %08b at byte %d", form, place), s, grown(t, s, 0, writes(l)...), ordered(l))
		}
	}
}

// keyAt is the key of noughts but for one byte.
func keyAt(place int, b byte) api.Path {
	var k api.Path
	k[place] = b
	return k
}

// Roots of many leaves: those that part early, late, and one at each depth, with the first key and the last one, and without.
func TestRootsOfManyLeaves(t *testing.T) {
	for name, key := range kinds {
		for _, n := range []int{3, 17, 64, 255, 256, 257, 600} {
			if testing.Short() && n == 600 {
				continue
			}
			s := fresh(t, 65536)
			w := many(n, key)
			lists(t, fmt.Sprint(n, " ", name), s, grown(t, s, 0, w...), entries(w))
			w = append(w, set(keyZ, 5), set(keyN, 6))
			lists(t, fmt.Sprint(n, " ", name, " and both ends"), s, grown(t, s, 0, w...), entries(w))
		}
	}
}

// The greatest room, full of one tree.
func TestGreatestRoom(t *testing.T) {
	s := fresh(t, api.MaxNodes)
	root := full(t, s, 0, keyZ, 15)
	lone := leaf(t, s, keyN, nil)
	if s.Occupied() != api.MaxNodes {
		t.Fatalf("%d slots are occupied", s.Occupied())
	}
	var l []api.Pair
	for i := range 1 << 15 {
		l = append(l, api.Pair{Key: api.Path{byte(i >> 7), byte(i << 1)}, Value: []byte{byte(i), byte(i >> 8)}})
	}
	lists(t, "32,768 leaves", s, root, l)
	lists(t, "a leaf beside them", s, lone, []api.Pair{{Key: keyN}})
}

// full makes the tree at a depth in which each of the keys with these first bits parts at each bit up to the depth most.
func full(t testing.TB, s *store.Store, d int, key api.Path, most int) int {
	t.Helper()
	if d == most {
		n := int(key[0])<<7 + int(key[1])>>1
		return leaf(t, s, key, []byte{byte(n), byte(n >> 8)})
	}
	left := full(t, s, d+1, key, most)
	return inner(t, s, d, left, full(t, s, d+1, flip(key, d), most))
}

// Values of all lengths are told as they are.
func TestValues(t *testing.T) {
	s := fresh(t, 60000)
	var l []api.Pair
	for i, n := range []int{0, 1, 2, 7, 8, 31, 32, 33, 63, 64, 65, 255, 256, 511, 512, 513, 1000, 1023, 1024} {
		l = append(l, api.Pair{Key: api.Path{5: byte(i)}, Value: noise(n)}, api.Pair{Key: api.Path{5: byte(i), 6: 1}, Value: make([]byte, n)})
	}
	lists(t, "values", s, grown(t, s, 0, writes(l)...), l)
}

// Versions beside each other have each their own entries, though they share nodes.
func TestVersionsThatShareNodes(t *testing.T) {
	s := fresh(t, 20000)
	w := many(40, scattered)
	root := grown(t, s, 0, w...)
	first := root
	var all [][]api.Write
	var roots []int
	for i := range 12 {
		hold(t, s, root)
		next := append(slices.Clone(w), set(scattered(3*i), 100+i), set(near(i), i), gone(scattered(5*i+1)))
		root = grown(t, s, root, next[len(w):]...)
		w = next
		all, roots = append(all, w), append(roots, root)
	}
	for i, root := range roots {
		lists(t, fmt.Sprint("version ", i), s, root, entries(all[i]))
	}
	lists(t, "the first version", s, first, entries(many(40, scattered)))
}

// Nth at all places, those that are none, too.
func TestPlaces(t *testing.T) {
	s, root, l := abc(t)
	for _, n := range []int{-1, -2, -256, math.MinInt32, math.MinInt, math.MinInt + 1} {
		nth(t, s, root, n, api.Pair{}, api.ErrArg)
		nth(t, s, 0, n, api.Pair{}, api.ErrArg)
	}
	for n, p := range l {
		nth(t, s, root, n, p, api.OK)
	}
	for _, n := range []int{3, 4, 5, 255, 256, 257, 1999, 2000, 2001, 65535, 65536, 1 << 32, 1<<32 + 1, math.MaxInt32, math.MaxInt - 1, math.MaxInt} {
		nth(t, s, root, n, api.Pair{}, api.ErrMissing)
	}
	for _, n := range []int{0, 1, math.MaxInt} {
		nth(t, s, 0, n, api.Pair{}, api.ErrMissing)
	}
}

func nth(t testing.TB, s *store.Store, root, n int, want api.Pair, err api.Errno) {
	t.Helper()
	if p, e := list.Nth(s, root, n); p.Key != want.Key || !bytes.Equal(p.Value, want.Value) || e != err {
		t.Errorf("Nth(%d, %d) = %v, %d, not %v, %d", root, n, p, e, want, err)
	}
}

// Some at all bounds of most, of roots with fewer entries, as many, and more.
func TestMost(t *testing.T) {
	s := fresh(t, 65536)
	for _, n := range []int{0, 1, 2, 254, 255, 256, 257, 258, 511, 512, 513, 700} {
		w := many(n, near)
		root := grown(t, s, 0, w...)
		l := entries(w)
		for _, most := range []int{0, 1, 2, 254, 255, 256} {
			some(t, s, root, keyZ, most, l[:min(most, n)], api.OK)
			some(t, s, root, near(n/2), most, l[n/2:min(n/2+most, n)], api.OK)
			some(t, s, root, near(n), most, nil, api.OK)
			some(t, s, root, keyN, most, nil, api.OK)
		}
		for _, most := range []int{-1, -2, -256, 257, 258, 512, 65536, 1 << 32, 1<<32 + 1, -1<<32 + 1, math.MaxInt32, math.MaxInt, math.MinInt32, math.MinInt} {
			some(t, s, root, keyZ, most, nil, api.ErrArg)
			some(t, s, root, keyN, most, nil, api.ErrArg)
		}
		if root != 0 {
			letGo(t, s, root)
		}
	}
}

func some(t testing.TB, s *store.Store, root int, key api.Path, most int, want []api.Pair, err api.Errno) {
	t.Helper()
	if l, e := list.Some(s, root, key, most); !alike(l, want) || e != err {
		t.Errorf("Some(%d, %x, %d) = %d entries, %d, not %d, %d", root, key, most, len(l), e, len(want), err)
	}
}

// Some, asked again and again from the key behind its last one on, tells all until it tells nothing.
func TestSomeAgainAndAgain(t *testing.T) {
	for name, key := range kinds {
		s := fresh(t, 65536)
		w := append(many(700, key), set(keyZ, 1))
		root := grown(t, s, 0, w...)
		l := entries(w)
		for _, most := range []int{1, 2, 3, 7, 100, 255, 256} {
			if got, calls := again(t, s, root, most); !alike(got, l) || calls != len(l)/most+1 {
				t.Errorf("%s: by %d are told %d entries with %d calls, not %d", name, most, len(got), calls, len(l))
			}
		}
	}
	s := fresh(t, 65536)
	w := append(many(513, stair), set(keyN, 1)) // the last key of all is the last entry: nothing is behind it
	if got, _ := again(t, s, grown(t, s, 0, w...), 256); !alike(got, entries(w)) {
		t.Errorf("up to the last key are told %d entries, not %d", len(got), len(entries(w)))
	}
}

// again asks Some from the key behind the last one on until it tells fewer than most, and tells all of them and how often it asked.
func again(t testing.TB, s *store.Store, root, most int) (all []api.Pair, calls int) {
	t.Helper()
	for key, more := keyZ, true; more; {
		l, e := list.Some(s, root, key, most)
		if e != api.OK || len(l) > most {
			t.Fatalf("Some(%d, %x, %d) = %d entries, %d", root, key, most, len(l), e)
		}
		if calls++; calls > s.Room() {
			t.Fatalf("by %d entries Some comes to no end", most)
		}
		all = append(all, l...)
		if len(l) < most {
			break
		}
		key, more = path.Next(l[len(l)-1].Key)
	}
	return all, calls
}

// Between with both keys alike, with the first and the last key, with to ahead of from, by one and by all.
func TestBetween(t *testing.T) {
	s, root, _ := abc(t)
	for _, c := range []struct {
		from, to api.Path
		want     int
	}{
		{keyZ, keyZ, 1}, {keyX, keyX, 1}, {keyY, keyY, 1}, {keyO, keyO, 0}, {keyN, keyN, 0},
		{keyZ, keyN, 3}, {keyO, keyN, 2}, {keyZ, keyY, 3}, {keyZ, ahead(keyY), 2}, {keyX, keyY, 2}, {keyX, ahead(keyY), 1},
		{behind(keyX), keyY, 1}, {behind(keyX), ahead(keyY), 0}, {behind(keyY), keyN, 0}, {keyO, ahead(keyX), 0},
		{keyN, keyZ, 0}, {keyO, keyZ, 0}, {keyY, keyZ, 0}, {keyY, keyX, 0}, {keyY, ahead(keyY), 0}, {behind(keyX), keyX, 0}, {keyN, keyY, 0},
	} {
		if n, e := list.Between(s, root, c.from, c.to); n != c.want || e != api.OK {
			t.Errorf("Between(%x, %x) = %d, %d, not %d", c.from, c.to, n, e, c.want)
		}
		if n, e := list.Between(s, 0, c.from, c.to); n != 0 || e != api.OK {
			t.Errorf("of nothing Between(%x, %x) = %d, %d", c.from, c.to, n, e)
		}
	}
	root = grown(t, s, root, set(keyN, 1))
	for _, from := range []api.Path{keyN, ahead(keyN), behind(keyY)} {
		if n, e := list.Between(s, root, from, keyN); n != 1 || e != api.OK {
			t.Errorf("with the last key there Between(%x, the last one) = %d, %d", from, n, e)
		}
	}
}

// No key of 32 bytes is refused: at each bit all keys that part there are told apart.
func TestRankAtEachBit(t *testing.T) {
	s := fresh(t, 65536)
	key := scattered(7)
	w := []api.Write{set(key, 1)}
	for d := range 256 {
		if d%2 == 0 {
			w = append(w, set(flip(key, d), d%9))
		}
	}
	root, l := grown(t, s, 0, w...), entries(w)
	for d := range 256 {
		for _, k := range []api.Path{flip(key, d), flip(flip(key, d), 255-d), ahead(flip(key, d)), behind(flip(key, d))} {
			if n, e := list.Rank(s, root, k); n != rankOf(l, k) || e != api.OK {
				t.Errorf("bit %d: Rank(%x) = %d, %d, not %d", d, k, n, e, rankOf(l, k))
			}
		}
	}
}

func ExampleAll() {
	s, _ := store.New(2000)
	root, _ := batch.Apply(s, 0, []api.Write{{Key: api.Path{0: 128}, Value: []byte("c")}, {Key: api.Path{}, Value: []byte("a")}, {Key: api.Path{0: 64}, Value: []byte("b")}})
	for key, value := range list.All(s, root) {
		fmt.Println(key[0], string(value))
	}
	n, e := list.Between(s, root, api.Path{}, api.Path{0: 64})
	fmt.Println(n, e == api.OK)
	// Output:
	// 0 a
	// 64 b
	// 128 c
	// 2 true
}
