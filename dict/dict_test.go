package dict_test

import (
	"fmt"
	"maps"
	"math"
	"slices"
	"strings"
	"testing"

	"rootcellar/api"
	"rootcellar/dict"
	"rootcellar/node"
	"rootcellar/tag"
)

// The examples of the chapter.
func TestExamples(t *testing.T) {
	if d, e := dict.New(0); d != nil || e != api.ErrArg {
		t.Errorf("New(0) = %v, %d", d, e)
	}
	d := fresh(t, 600)
	put(t, d, keyZ, "a")
	has(t, d, "", keyZ, "a")
	remove(t, d, keyZ, true)
	remove(t, d, keyZ, false)
	unchanged(t, "a short key and a long value", d, func() {
		if e := d.Put(some(31), some(1025)); e != api.ErrKey {
			t.Errorf("Put = %d", e)
		}
	})
	snapshot(t, d, "one")
	unchanged(t, "no new names", d, func() {
		if e := d.Snapshot("one"); e != api.ErrThere {
			t.Errorf("Snapshot(one) = %d", e)
		}
		if e := d.Snapshot("2"); e != api.ErrName {
			t.Errorf("Snapshot(2) = %d", e)
		}
	})
	named(t, "one version", d, "one")
	put(t, d, keyZ, "b")
	rollback(t, d, "one")
	hasNot(t, d, "", keyZ)
	if e := d.Rollback("two"); e != api.ErrMissing {
		t.Errorf("Rollback(two) = %d", e)
	}
	d = fresh(t, 257)
	unchanged(t, "room 257", d, func() {
		if e := d.Put(keyZ[:], []byte("a")); e != api.ErrStoreFull {
			t.Errorf("Put = %d", e)
		}
		write(t, d)
	})
}

// Example 6 of the whole.
func TestExampleSix(t *testing.T) {
	d := fresh(t, 600)
	put(t, d, keyZ, "")
	put(t, d, keyO, "")
	occupied(t, "Z and O", d, 258)
	put(t, d, keyY, "")
	occupied(t, "Y besides", d, 259)
	ofItself(t, "Y besides", d)
	snapshot(t, d, "old")
	put(t, d, flip(keyO, 175), "") // beside the way of noughts: its leaf, and the nodes from the top on, 176 of them
	occupied(t, "with a version beside", d, 259+177)
	refuse(t, "above 342", d, api.ErrStoreFull, d.Put(keyY[:], nil))
	prune(t, d, "old")
	occupied(t, "pruned", d, 260)
	put(t, d, keyX, "")

	small := fresh(t, 257)
	refuse(t, "room 257", small, api.ErrStoreFull, small.Put(keyZ[:], nil))
	occupied(t, "room 257", small, 0)
}

// Example 7 of the whole.
func TestExampleSeven(t *testing.T) {
	d := fresh(t, 600)
	put(t, d, keyZ, "")
	snapshot(t, d, "one")
	put(t, d, keyZ, "another")
	occupied(t, "two values", d, 2)
	rollback(t, d, "one")
	occupied(t, "rolled back", d, 1)
	prune(t, d, "one")
	occupied(t, "pruned", d, 1)
	has(t, d, "", keyZ, "")
	ofItself(t, "pruned", d)
	named(t, "pruned", d, "")
}

// refuse sees that an error is the one that is wanted.
func refuse(t testing.TB, when string, d *dict.Dict, want, e api.Errno) {
	t.Helper()
	if e != want {
		t.Fatalf("%s: %d, not %d", when, e, want)
	}
	ofItself(t, when, d)
}

// Rooms at both ends and right beside them.
func TestNew(t *testing.T) {
	for _, room := range []int{1, 2, 257, 258, 259, 600, 65535, 65536} {
		d := fresh(t, room)
		if d.Room() != room || d.Occupied() != 0 || d.Store().Room() != room || len(d.Names()) != 0 {
			t.Errorf("room %d: Room %d, Occupied %d, Names %q", room, d.Room(), d.Occupied(), d.Names())
		}
		if root, e := d.Root(""); root != tag.Empty() || e != api.OK {
			t.Errorf("room %d: Root = %x, %d", room, root, e)
		}
		if n, e := d.Len(""); n != 0 || e != api.OK {
			t.Errorf("room %d: Len = %d, %d", room, n, e)
		}
		if h, e := d.Handle(""); h != 0 || e != api.OK {
			t.Errorf("room %d: Handle = %d, %d", room, h, e)
		}
		if l, e := d.Some("", keyZ[:], 256); len(l) != 0 || e != api.OK {
			t.Errorf("room %d: Some = %v, %d", room, l, e)
		}
		hasNot(t, d, "", keyZ)
		ofItself(t, "new", d)
	}
	for _, room := range []int{0, -1, 65537, 65536 * 2, math.MinInt, math.MaxInt, math.MinInt32, math.MaxInt32, 1<<32 + 1, 1<<32 + 600} {
		if d, e := dict.New(room); d != nil || e != api.ErrArg {
			t.Errorf("New(%d) = %v, %d", room, d, e)
		}
	}
}

// Values of no bytes, of one, of as many as there may be, written alone and in a batch.
func TestValues(t *testing.T) {
	d := fresh(t, 2000)
	for _, n := range []int{0, 1, 2, 63, 64, 1023, 1024} {
		v := string(some(n))
		put(t, d, keyZ, v)
		has(t, d, "", keyZ, v)
		if root, e := d.Root(""); root != tag.Leaf(keyZ, tag.Value([]byte(v))) || e != api.OK {
			t.Errorf("a value of %d bytes: Root = %x, %d", n, root, e)
		}
		write(t, d, plus(keyY, v), plus(keyX, "x"), plus(keyZ, v))
		has(t, d, "", keyY, v)
		has(t, d, "", keyZ, v)
		ofItself(t, "a batch", d)
		write(t, d, gone(keyX), gone(keyY))
		occupied(t, "back again", d, 1)
	}
	unchanged(t, "too long", d, func() {
		for _, n := range []int{1025, 1026, 70000} {
			if e := d.Put(keyZ[:], some(n)); e != api.ErrLong {
				t.Errorf("Put of %d bytes = %d", n, e)
			}
			if e := d.Batch([]api.Raw{plus(keyX, ""), plus(keyZ, string(some(n)))}); e != api.ErrLong {
				t.Errorf("Batch with %d bytes = %d", n, e)
			}
		}
	})
}

// Examples 1 to 3 of the whole: the digests, and how many nodes there are.
func TestRootsOfTheWhole(t *testing.T) {
	leaf := func(k api.Path) api.Hash { return tag.Leaf(k, tag.Value(nil)) }
	d := fresh(t, 1000)
	see := func(when string, want api.Hash, nodes int) {
		t.Helper()
		if root, e := d.Root(""); root != want || e != api.OK {
			t.Errorf("%s: Root = %x, %d, not %x", when, root, e, want)
		}
		occupied(t, when, d, nodes)
		ofItself(t, when, d)
	}
	see("none", tag.Empty(), 0)
	put(t, d, keyZ, "")
	see("Z", leaf(keyZ), 1)
	put(t, d, keyY, "")
	see("Z and Y", tag.Inner(leaf(keyZ), leaf(keyY)), 3)
	put(t, d, keyX, "")
	see("Z, X, Y", tag.Inner(tag.Inner(leaf(keyZ), leaf(keyX)), leaf(keyY)), 5)
	remove(t, d, keyX, true)
	see("without X", tag.Inner(leaf(keyZ), leaf(keyY)), 3)
	remove(t, d, keyY, true)
	see("Z again", leaf(keyZ), 1)
	put(t, d, keyO, "")
	deep := tag.Inner(leaf(keyZ), leaf(keyO))
	for range 255 {
		deep = tag.Inner(deep, tag.Empty())
	}
	see("Z and O", deep, 258)
	write(t, d, gone(keyO), gone(keyZ))
	see("none again", tag.Empty(), 0)
}

// A write of the value that is there, and a delete of a key that is not, change nothing, not even handles.
func TestWritesThatChangeNothing(t *testing.T) {
	for kind, key := range kinds {
		d := fresh(t, 9000)
		write(t, d, many(20, key)...)
		snapshot(t, d, "one")
		write(t, d, gone(key(3)), plus(key(4), "anew"))
		unchanged(t, kind, d, func() {
			for i := range 40 {
				k := key(i)
				v, there, _ := d.Get("", k[:])
				if there {
					put(t, d, k, string(v))
					write(t, d, plus(k, "on the way"), plus(k, string(v)))
				} else {
					remove(t, d, k, false)
					write(t, d, plus(k, "on the way"), gone(k), gone(k))
				}
			}
			write(t, d)
			write(t, d, []api.Raw{}...)
		})
	}
}

// Put and Delete of a key that was absent lead back to the root, whatever else is there.
func TestPutAndDeleteLeadBack(t *testing.T) {
	for kind, key := range kinds {
		d := fresh(t, 9000)
		for i := range 24 {
			before, _ := d.Root("")
			nodes := d.Occupied()
			put(t, d, key(i+30), "guest")
			remove(t, d, key(i+30), true)
			if after, e := d.Root(""); after != before || e != api.OK {
				t.Fatalf("%s: Root %x, not %x", kind, after, before)
			}
			occupied(t, kind, d, nodes)
			put(t, d, key(i), kind)
		}
		ofItself(t, kind, d)
	}
}

// A batch leads to what its writes lead to, one by one, in any order that keeps the last write of each key.
func TestBatchIsItsWritesOneByOne(t *testing.T) {
	for kind, key := range kinds {
		for turn := range 6 {
			l := many(30, key)
			for i := range 20 {
				l = append(l, api.Raw{Key: l[i].Key, Gone: i%3 == 0, Value: []byte(kind)})
			}
			whole, single := fresh(t, 20000), fresh(t, 20000)
			for _, d := range []*dict.Dict{whole, single} {
				write(t, d, many(40, func(i int) api.Path { return key(i + 15) })...)
			}
			write(t, whole, l...)
			for i := range l { // key by key: each key's writes stay in their order
				w := l[(i*7+turn)%len(l)]
				for _, x := range l {
					if string(x.Key) == string(w.Key) {
						one(t, single, x)
					}
				}
			}
			a, _ := whole.Root("")
			if b, _ := single.Root(""); a != b || !slices.EqualFunc(entriesOf(whole, ""), entriesOf(single, ""), likePairs) {
				t.Fatalf("%s: %x and %x", kind, a, b)
			}
			if whole.Occupied() != single.Occupied() {
				t.Fatalf("%s: Occupied %d and %d", kind, whole.Occupied(), single.Occupied())
			}
			ofItself(t, kind, whole)
			ofItself(t, kind, single)
		}
	}
}

// one writes what a batch's write says, by itself.
func one(t testing.TB, d *dict.Dict, w api.Raw) {
	t.Helper()
	e := api.OK
	if w.Gone {
		_, e = d.Delete(w.Key)
	} else {
		e = d.Put(w.Key, w.Value)
	}
	if e != api.OK {
		t.Fatalf("a write by itself = %d", e)
	}
}

// Of a key that is written several times the last write counts.
func TestLastWriteCounts(t *testing.T) {
	d := fresh(t, 600)
	write(t, d, plus(keyZ, "one"), plus(keyY, "y"), plus(keyZ, "two"), gone(keyY), plus(keyZ, "three"))
	has(t, d, "", keyZ, "three")
	hasNot(t, d, "", keyY)
	occupied(t, "Z alone", d, 1)
	write(t, d, gone(keyZ), plus(keyY, ""), gone(keyY), plus(keyY, "back"))
	hasNot(t, d, "", keyZ)
	has(t, d, "", keyY, "back")
	occupied(t, "Y alone", d, 1)
	ofItself(t, "Y alone", d)
}

// The value of a write that is Gone counts for nothing, however long it is.
func TestGoneWithLongValues(t *testing.T) {
	d := fresh(t, 2000)
	put(t, d, keyZ, "z")
	write(t, d, api.Raw{Key: keyZ[:], Gone: true, Value: some(1025)}, api.Raw{Key: keyY[:], Gone: true, Value: some(70000)}, plus(keyX, "x"))
	hasNot(t, d, "", keyZ)
	hasNot(t, d, "", keyY)
	has(t, d, "", keyX, "x")
	occupied(t, "X alone", d, 1)
	unchanged(t, "one that is not Gone among them", d, func() {
		l := []api.Raw{{Key: keyX[:], Gone: true, Value: some(1025)}, {Key: keyX[:], Value: some(1025)}, {Key: keyX[:], Gone: true, Value: some(1025)}}
		if e := d.Batch(l); e != api.ErrLong {
			t.Errorf("Batch = %d", e)
		}
	})
}

// Batches of none, of one, of as many writes as there may be, and of one more, whether of unlike keys or of one.
func TestHowManyWrites(t *testing.T) {
	for _, n := range []int{0, 1, 2, 63, 64} {
		d := fresh(t, 64*258)
		write(t, d, many(n, near)...)
		if got, e := d.Len(""); got != n || e != api.OK {
			t.Errorf("%d writes: Len %d, %d", n, got, e)
		}
		ofItself(t, "a batch", d)
		again := fresh(t, 258)
		write(t, again, slices.Repeat([]api.Raw{plus(keyY, "y")}, n)...)
		if got, e := again.Len(""); got != min(n, 1) || e != api.OK {
			t.Errorf("%d writes of one key: Len %d, %d", n, got, e)
		}
	}
	d := fresh(t, 65536)
	put(t, d, keyZ, "z")
	unchanged(t, "too many", d, func() {
		for _, n := range []int{65, 66, 128, 1000, 70000} {
			if e := d.Batch(many(n, near)); e != api.ErrLong {
				t.Errorf("Batch of %d = %d", n, e)
			}
			if e := d.Batch(slices.Repeat([]api.Raw{gone(keyZ)}, n)); e != api.ErrLong {
				t.Errorf("Batch of %d of one key = %d", n, e)
			}
		}
	})
}

// The tree of the empty name is the current one; each version's is what it was when it was named.
func TestTreesOfNames(t *testing.T) {
	d := fresh(t, 20000)
	want := map[string]map[api.Path]string{}
	now := map[api.Path]string{}
	for i, name := range sixteen {
		if i > 0 { // the first version is the empty map
			put(t, d, scattered(i), name)
			put(t, d, keyZ, name)
			now[scattered(i)], now[keyZ] = name, name
			delete(now, scattered(i-3))
			remove(t, d, scattered(i-3), i > 3)
		}
		snapshot(t, d, name)
		want[name] = maps.Clone(now)
	}
	put(t, d, keyO, "current")
	now[keyO] = "current"
	want[""] = now
	for name, want := range want {
		for i := range 20 {
			look(t, d, name, scattered(i), want)
		}
		look(t, d, name, keyZ, want)
		look(t, d, name, keyO, want)
		whole(t, d, name, want)
	}
	ofItself(t, "all", d)
}

// look holds Get against a map.
func look(t testing.TB, d *dict.Dict, name string, key api.Path, want map[api.Path]string) {
	t.Helper()
	if v, there := want[key]; there {
		has(t, d, name, key, v)
	} else {
		hasNot(t, d, name, key)
	}
}

// pairs tells a map's entries, by rising key.
func pairs(m map[api.Path]string) []api.Pair {
	var l []api.Pair
	for k, v := range m {
		l = append(l, api.Pair{Key: k, Value: []byte(v)})
	}
	slices.SortFunc(l, func(a, b api.Pair) int { return strings.Compare(string(a.Key[:]), string(b.Key[:])) })
	return l
}

// whole holds Root, Len, Some and Handle of a tree against a map.
func whole(t testing.TB, d *dict.Dict, name string, want map[api.Path]string) {
	t.Helper()
	l := pairs(want)
	digest, e := node.Root(l)
	if root, f := d.Root(name); root != digest || e != api.OK || f != api.OK {
		t.Fatalf("Root(%q) = %x, %d, not %x, %d", name, root, f, digest, e)
	}
	if n, e := d.Len(name); n != len(l) || e != api.OK {
		t.Fatalf("Len(%q) = %d, %d, not %d", name, n, e, len(l))
	}
	if got, e := d.Some(name, keyZ[:], 256); e != api.OK || !slices.EqualFunc(got, l[:min(len(l), 256)], likePairs) {
		t.Fatalf("Some(%q) = %d entries, %d, not %d", name, len(got), e, len(l))
	}
	if h, e := d.Handle(name); e != api.OK || d.Store().Root(h) != api.OK || d.Store().Digest(h) != digest || (h == 0) != (len(l) == 0) {
		t.Fatalf("Handle(%q) = %d, %d", name, h, e)
	}
}

// Names that are no version's are missing, wherever they are asked for.
func TestNamesThatAreNone(t *testing.T) {
	d := fresh(t, 2000)
	put(t, d, keyZ, "z")
	snapshot(t, d, "one")
	put(t, d, keyZ, "zz")
	snapshot(t, d, "two")
	prune(t, d, "two")
	for _, name := range append(slices.Clone(strangeNames), "two", "on", "onee", "one ", "One") {
		missing(t, d, name)
	}
	unchanged(t, "the empty name", d, func() { // it is no version's
		if e, f := d.Rollback(""), d.Prune(""); e != api.ErrMissing || f != api.ErrMissing {
			t.Errorf("Rollback, Prune of the empty name = %d, %d", e, f)
		}
		if e := d.Snapshot(""); e != api.ErrName {
			t.Errorf("Snapshot of the empty name = %d", e)
		}
	})
}

// missing sees that no call finds a name.
func missing(t testing.TB, d *dict.Dict, name string) {
	t.Helper()
	unchanged(t, name, d, func() {
		if v, there, e := d.Get(name, keyZ[:]); v != nil || there || e != api.ErrMissing {
			t.Errorf("Get(%q) = %q, %t, %d", name, v, there, e)
		}
		if root, e := d.Root(name); root != (api.Hash{}) || e != api.ErrMissing {
			t.Errorf("Root(%q) = %x, %d", name, root, e)
		}
		if n, e := d.Len(name); n != 0 || e != api.ErrMissing {
			t.Errorf("Len(%q) = %d, %d", name, n, e)
		}
		if l, e := d.Some(name, keyZ[:], 5); len(l) != 0 || e != api.ErrMissing {
			t.Errorf("Some(%q) = %v, %d", name, l, e)
		}
		if h, e := d.Handle(name); h != 0 || e != api.ErrMissing {
			t.Errorf("Handle(%q) = %d, %d", name, h, e)
		}
		if e, f := d.Rollback(name), d.Prune(name); e != api.ErrMissing || f != api.ErrMissing {
			t.Errorf("Rollback, Prune(%q) = %d, %d", name, e, f)
		}
	})
}

// Some from below the first key, at keys, between them and beyond the last, with as many as may be asked for, and with others.
func TestSome(t *testing.T) {
	d := fresh(t, 65536)
	want := map[api.Path]string{}
	for i := range 300 { // the keys 1, 3, 5, .. in the last two bytes
		want[near(2*i+1)] = fmt.Sprint("v", i)
		put(t, d, near(2*i+1), want[near(2*i+1)])
	}
	snapshot(t, d, "all")
	write(t, d, gone(near(1)), gone(near(599)))
	l := pairs(want)
	for name, l := range map[string][]api.Pair{"all": l, "": l[1:299]} {
		for _, from := range []api.Path{near(0), near(1), near(2), near(3), near(4), near(87), near(88), near(89), near(90), near(510), near(511), near(512), near(596), near(597), near(598), near(599), near(600), keyY, lastKey} {
			at := slices.IndexFunc(l, func(p api.Pair) bool { return string(p.Key[:]) >= string(from[:]) })
			if at < 0 {
				at = len(l)
			}
			for _, most := range []int{0, 1, 2, 255, 256} {
				got, e := d.Some(name, from[:], most)
				if rest := l[at:]; e != api.OK || !slices.EqualFunc(got, rest[:min(most, len(rest))], likePairs) {
					t.Fatalf("Some(%q, %x, %d) = %v, %d", name, from, most, got, e)
				}
			}
		}
	}
	unchanged(t, "too many, or below 0", d, func() {
		for _, most := range []int{257, 258, -1, -256, math.MinInt, math.MaxInt, 1 << 32, 1<<32 + 1, -1 << 32} {
			for _, name := range []string{"", "all"} {
				if got, e := d.Some(name, keyZ[:], most); len(got) != 0 || e != api.ErrArg {
					t.Errorf("Some(%q, %d) = %d entries, %d", name, most, len(got), e)
				}
			}
		}
	})
	empty := fresh(t, 1)
	for most, want := range map[int]api.Errno{0: api.OK, 1: api.OK, 256: api.OK, 257: api.ErrArg, -1: api.ErrArg} {
		if got, e := empty.Some("", lastKey[:], most); len(got) != 0 || e != want {
			t.Errorf("of the empty map Some(%d) = %v, %d", most, got, e)
		}
	}
}

// There may be 16 versions, in whatever order they come; one that is pruned leaves its place and its name.
func TestSixteenVersions(t *testing.T) {
	d := fresh(t, 20000)
	back := slices.Clone(sixteen)
	slices.Reverse(back)
	for _, order := range [][]string{sixteen, back} {
		for i, name := range order {
			put(t, d, scattered(i), name)
			snapshot(t, d, name)
		}
		named(t, "all", d, strings.Join(sixteen, " "))
		unchanged(t, "one more", d, func() {
			for _, name := range append(slices.Clone(sixteen), "q", "new") { // too many goes ahead of a name that is there
				if e := d.Snapshot(name); e != api.ErrVersions {
					t.Errorf("Snapshot(%q) = %d", name, e)
				}
			}
			if e := d.Snapshot("2"); e != api.ErrName {
				t.Errorf("Snapshot(2) = %d", e)
			}
		})
		ofItself(t, "all", d)
		prune(t, d, "g")
		missing(t, d, "g")
		unchanged(t, "a name that is there", d, func() {
			if e := d.Snapshot("h"); e != api.ErrThere {
				t.Errorf("Snapshot(h) = %d", e)
			}
		})
		put(t, d, keyZ, "anew "+order[0])
		snapshot(t, d, "g") // taken again, for another map
		has(t, d, "g", keyZ, "anew "+order[0])
		if e := d.Snapshot("new"); e != api.ErrVersions {
			t.Errorf("Snapshot(new) = %d", e)
		}
		ofItself(t, "taken again", d)
		for _, name := range order {
			prune(t, d, name)
			ofItself(t, name, d)
		}
		named(t, "none", d, "")
	}
}

// Names rise byte by byte, in whatever order they came.
func TestNamesRise(t *testing.T) {
	rising := strings.Fields("a a- a-- a-0 a0 a9 aa aaaaaaaaaaaaaaaaaaaa aaaaaaaaaaaaaaaaaaab az b-9 b9- c z z0 zz")
	for step := 1; step < 16; step += 2 {
		d := fresh(t, 1)
		for i := range rising {
			snapshot(t, d, rising[i*step%16])
		}
		named(t, "all", d, strings.Join(rising, " "))
	}
}

// Which texts are taken for names.
func TestSnapshotTakesNamesAlone(t *testing.T) {
	d := fresh(t, 1)
	for _, name := range []string{"a", "z", "a-", "a0", "a-b-c", "z9", "abcdefghijklmnopqrst", "a-------------------"} {
		snapshot(t, d, name)
		named(t, name, d, name)
		prune(t, d, name)
	}
	for _, name := range []string{"", "-", "0", "9a", "-a", "A", "aA", "a_", "a ", " a", "a.", "a/", "a:", "a`", "a{", "a\x00", "é", "aé", "a\xff", "a\n", "abcdefghijklmnopqrstu", strings.Repeat("a", 70000)} {
		unchanged(t, name, d, func() {
			if e := d.Snapshot(name); e != api.ErrName {
				t.Errorf("Snapshot(%q) = %d", name, e)
			}
		})
	}
}

// Rollback to the very map that is current, by its own tree and by a tree of its own.
func TestRollbackToTheSameMap(t *testing.T) {
	d := fresh(t, 2000)
	write(t, d, plus(keyZ, "z"), plus(keyY, "y"))
	snapshot(t, d, "one")
	unchanged(t, "the very tree", d, func() { rollback(t, d, "one") })
	ofItself(t, "the very tree", d)
	put(t, d, keyZ, "another")
	put(t, d, keyZ, "z")
	occupied(t, "a tree of its own", d, 5) // Y's leaf is shared
	rollback(t, d, "one")
	occupied(t, "one tree again", d, 3)
	ofItself(t, "one tree again", d)
	a, _ := d.Handle("")
	if b, _ := d.Handle("one"); a != b || d.Store().Held(a) != 2 {
		t.Errorf("handles %d, %d, held %d times", a, b, d.Store().Held(a))
	}
}

// Rollback to the empty map, from it, and between maps; the version stays.
func TestRollback(t *testing.T) {
	d := fresh(t, 20000)
	snapshot(t, d, "none")
	write(t, d, many(20, near)...)
	snapshot(t, d, "many")
	full := d.Occupied()
	many, _ := d.Root("many")
	see := func(when string, want api.Hash, entries, nodes int) {
		t.Helper()
		if root, e := d.Root(""); root != want || e != api.OK {
			t.Fatalf("%s: Root = %x, %d", when, root, e)
		}
		if n, e := d.Len(""); n != entries || e != api.OK {
			t.Fatalf("%s: Len = %d, %d", when, n, e)
		}
		occupied(t, when, d, nodes)
		named(t, when, d, "many none")
		ofItself(t, when, d)
	}
	for range 3 {
		rollback(t, d, "none")
		see("to the empty map", tag.Empty(), 0, full)
		rollback(t, d, "none")
		see("from the empty map to it", tag.Empty(), 0, full)
		put(t, d, keyX, "lost")
		rollback(t, d, "many")
		see("to many", many, 20, full)
		put(t, d, keyX, "lost, too")
		remove(t, d, near(3), true)
		rollback(t, d, "many")
		see("to many again", many, 20, full)
	}
	prune(t, d, "many")
	rollback(t, d, "none")
	occupied(t, "all let go", d, 0)
	prune(t, d, "none")
	ofItself(t, "all let go", d)
}

// Prune of a version whose map is the current one, of one that shares with others, of the last one.
func TestPrune(t *testing.T) {
	d := fresh(t, 20000)
	write(t, d, plus(keyZ, "z"), plus(keyX, "x"), plus(keyY, "y"))
	snapshot(t, d, "one")
	snapshot(t, d, "same")
	prune(t, d, "one")
	occupied(t, "the current one's", d, 5)
	has(t, d, "", keyZ, "z")
	has(t, d, "same", keyZ, "z")
	ofItself(t, "the current one's", d)
	put(t, d, keyY, "yy")
	occupied(t, "two trees", d, 7)
	prune(t, d, "same")
	occupied(t, "one tree", d, 5)
	has(t, d, "", keyY, "yy")
	ofItself(t, "one tree", d)
	snapshot(t, d, "last")
	write(t, d, gone(keyX), gone(keyY), gone(keyZ))
	occupied(t, "the version alone", d, 5)
	prune(t, d, "last")
	occupied(t, "none", d, 0)
	missing(t, d, "last")
	ofItself(t, "none", d)
}

// Snapshot, Rollback and Prune are taken where no write is, and make no slot occupied more.
func TestVersionsNeedNoRoom(t *testing.T) {
	d := fresh(t, 260)
	put(t, d, keyZ, "z")
	put(t, d, keyO, "o")
	refuse(t, "full", d, api.ErrStoreFull, d.Put(keyZ[:], []byte("z")))
	for _, name := range sixteen {
		snapshot(t, d, name)
		rollback(t, d, name)
		occupied(t, name, d, 258)
	}
	ofItself(t, "sixteen", d)
	for _, name := range sixteen {
		prune(t, d, name)
		occupied(t, name, d, 258)
	}
	ofItself(t, "none", d)

	tiny := fresh(t, 1) // no write is ever taken, but there are versions
	snapshot(t, tiny, "one")
	rollback(t, tiny, "one")
	write(t, tiny)
	prune(t, tiny, "one")
	occupied(t, "tiny", tiny, 0)
}

// Store is the store, and Occupied and Room are its.
func TestStore(t *testing.T) {
	d := fresh(t, 1000)
	s := d.Store()
	if s == nil || s != d.Store() {
		t.Fatal("no store, or another one each time")
	}
	write(t, d, plus(keyZ, "z"), plus(keyY, "y"))
	if d.Store() != s || s.Occupied() != 3 || d.Occupied() != 3 || s.Room() != 1000 || d.Room() != 1000 {
		t.Errorf("Occupied %d, %d, Room %d, %d", s.Occupied(), d.Occupied(), s.Room(), d.Room())
	}
	root, _ := d.Handle("")
	if e := s.Hold(root); e != api.OK { // who holds a tree keeps it, whatever the dictionary does
		t.Fatal(e)
	}
	write(t, d, gone(keyZ), gone(keyY))
	occupied(t, "held in the store", d, 3)
	if n, e := s.Drop(root); n != 3 || e != api.OK {
		t.Errorf("Drop = %d, %d", n, e)
	}
	ofItself(t, "dropped again", d)
}

// Two dictionaries have nothing in common.
func TestDictionariesAreByThemselves(t *testing.T) {
	one, two := fresh(t, 600), fresh(t, 600)
	if one.Store() == two.Store() {
		t.Fatal("one store")
	}
	put(t, one, keyZ, "one")
	snapshot(t, one, "a")
	hasNot(t, two, "", keyZ)
	missing(t, two, "a")
	unchanged(t, "the other one", one, func() {
		put(t, two, keyY, "two")
		snapshot(t, two, "a")
		put(t, two, keyY, "three")
		rollback(t, two, "a")
		prune(t, two, "a")
	})
}
