package dict_test

import (
	"bytes"
	"fmt"
	"slices"
	"strings"
	"testing"

	"rootcellar/api"
	"rootcellar/audit"
	"rootcellar/dict"
	"rootcellar/list"
	"rootcellar/node"
	"rootcellar/sha"
)

// The keys of the document's examples.
var (
	keyZ = api.Path{}
	keyO = api.Path{31: 1}
	keyX = api.Path{0: 64}
	keyY = api.Path{0: 128}
)

// lastKey is the one behind which there is none.
var lastKey = api.Path(bytes.Repeat([]byte{255}, 32))

// sixteen are as many names as there may be.
var sixteen = strings.Fields("a b c d e f g h i j k l m n o p")

// strangeNames are no version's, and no names but the last two.
var strangeNames = []string{"2", "-", "A", "a_", "one two", "é", "\xff", "\x00", " ", strings.Repeat("a", 21), strings.Repeat("a", 70000), "missing", strings.Repeat("a", 20)}

// flip turns a key's bit.
func flip(k api.Path, d int) api.Path {
	k[d/8] ^= 1 << (7 - d%8)
	return k
}

// scattered keys are digests; near ones part at the last bits; a ladder's each part from the way of noughts one bit deeper.
func scattered(i int) api.Path { return api.Path(sha.Sum([]byte{byte(i), byte(i >> 8)})) }

func near(i int) api.Path { return api.Path{30: byte(i >> 8), 31: byte(i)} }

func ladder(i int) api.Path { return flip(api.Path{}, i) }

// kinds of keys, by name.
var kinds = map[string]func(int) api.Path{"scattered": scattered, "near": near, "a ladder": ladder}

// some tells n bytes that are not all alike.
func some(n int) []byte {
	b := make([]byte, n)
	for i := range b {
		b[i] = byte(7*i + 1)
	}
	return b
}

// fresh makes a dictionary of a room that may be.
func fresh(t testing.TB, room int) *dict.Dict {
	t.Helper()
	d, e := dict.New(room)
	if d == nil || e != api.OK {
		t.Fatalf("New(%d) = %v, %d", room, d, e)
	}
	return d
}

func put(t testing.TB, d *dict.Dict, key api.Path, value string) {
	t.Helper()
	if e := d.Put(key[:], []byte(value)); e != api.OK {
		t.Fatalf("Put(%x, %d bytes) = %d", key, len(value), e)
	}
}

func remove(t testing.TB, d *dict.Dict, key api.Path, want bool) {
	t.Helper()
	if there, e := d.Delete(key[:]); there != want || e != api.OK {
		t.Fatalf("Delete(%x) = %t, %d, not %t", key, there, e, want)
	}
}

func write(t testing.TB, d *dict.Dict, l ...api.Raw) {
	t.Helper()
	if e := d.Batch(l); e != api.OK {
		t.Fatalf("Batch of %d = %d", len(l), e)
	}
}

func snapshot(t testing.TB, d *dict.Dict, name string) {
	t.Helper()
	if e := d.Snapshot(name); e != api.OK {
		t.Fatalf("Snapshot(%q) = %d", name, e)
	}
}

func rollback(t testing.TB, d *dict.Dict, name string) {
	t.Helper()
	if e := d.Rollback(name); e != api.OK {
		t.Fatalf("Rollback(%q) = %d", name, e)
	}
}

func prune(t testing.TB, d *dict.Dict, name string) {
	t.Helper()
	if e := d.Prune(name); e != api.OK {
		t.Fatalf("Prune(%q) = %d", name, e)
	}
}

// has sees that a tree has a key with a value.
func has(t testing.TB, d *dict.Dict, name string, key api.Path, want string) {
	t.Helper()
	if v, there, e := d.Get(name, key[:]); string(v) != want || !there || e != api.OK {
		t.Fatalf("Get(%q, %x) = %q, %t, %d, not %q", name, key, v, there, e, want)
	}
}

// hasNot sees that a tree has not a key.
func hasNot(t testing.TB, d *dict.Dict, name string, key api.Path) {
	t.Helper()
	if v, there, e := d.Get(name, key[:]); len(v) != 0 || there || e != api.OK {
		t.Fatalf("Get(%q, %x) = %q, %t, %d", name, key, v, there, e)
	}
}

func occupied(t testing.TB, when string, d *dict.Dict, want int) {
	t.Helper()
	if d.Occupied() != want {
		t.Fatalf("%s: Occupied %d, not %d", when, d.Occupied(), want)
	}
}

func named(t testing.TB, when string, d *dict.Dict, want string) {
	t.Helper()
	if l := d.Names(); !slices.Equal(l, strings.Fields(want)) {
		t.Fatalf("%s: Names %q, not %q", when, l, want)
	}
}

// plus and gone are writes of a batch.
func plus(key api.Path, value string) api.Raw { return api.Raw{Key: key[:], Value: []byte(value)} }

func gone(key api.Path) api.Raw { return api.Raw{Key: key[:], Gone: true} }

// many are writes of n keys that a function tells.
func many(n int, key func(int) api.Path) []api.Raw {
	var l []api.Raw
	for i := range n {
		l = append(l, plus(key(i), strings.Repeat(string(rune('a'+i%26)), i%40)))
	}
	return l
}

// entriesOf tells the entries of the tree of a name.
func entriesOf(d *dict.Dict, name string) []api.Pair {
	root, _ := d.Handle(name)
	var l []api.Pair
	for key, value := range list.All(d.Store(), root) {
		l = append(l, api.Pair{Key: key, Value: value})
	}
	return l
}

func likePairs(a, b api.Pair) bool { return a.Key == b.Key && bytes.Equal(a.Value, b.Value) }

// likeWrites tells whether two writes of a batch say the same.
func likeWrites(a, b api.Raw) bool {
	return bytes.Equal(a.Key, b.Key) && a.Gone == b.Gone && bytes.Equal(a.Value, b.Value)
}

// roots tells those of the current tree and of the versions.
func roots(d *dict.Dict) []int {
	var l []int
	for _, name := range append(d.Names(), "") {
		root, _ := d.Handle(name)
		l = append(l, root)
	}
	return l
}

// told tells all that a dictionary and its store tell.
func told(d *dict.Dict) string {
	var b strings.Builder
	s := d.Store()
	fmt.Fprintln(&b, d.Names(), d.Occupied(), d.Room(), s.Occupied(), s.Room())
	for _, name := range append(d.Names(), "") {
		root, e := d.Root(name)
		n, f := d.Len(name)
		h, g := d.Handle(name)
		fmt.Fprintf(&b, "%q %x %d, %d %d, %d %d\n", name, root, int(e), n, int(f), h, int(g))
	}
	for _, h := range s.Handles() {
		left, right := s.Sides(h)
		fmt.Fprintf(&b, "%d %d %d %x %x %d %d %x %d %d %d\n", h, s.Kind(h), s.Depth(h), s.Key(h), s.Value(h), left, right, s.Digest(h), s.Size(h), s.Count(h), s.Held(h))
	}
	return b.String()
}

// unchanged sees that a call that is refused, or changes nothing, leaves all that can be told as it was.
func unchanged(t testing.TB, when string, d *dict.Dict, call func()) {
	t.Helper()
	before := told(d)
	call()
	if after := told(d); after != before {
		t.Fatalf("%s: all is now\n%snot\n%s", when, after, before)
	}
}

// ofItself sees that the store is of itself, and that each digest is the root of the map.
func ofItself(t testing.TB, when string, d *dict.Dict) {
	t.Helper()
	held(t, when, d)
	for _, name := range append(d.Names(), "") {
		want, e := node.Root(entriesOf(d, name))
		if root, f := d.Root(name); e != api.OK || f != api.OK || root != want {
			t.Fatalf("%s: Root(%q) = %x, %d, not %x, %d", when, name, root, f, want, e)
		}
	}
}

// held sees that callers hold the current root and the versions', nothing else, and that nothing is found where counts are held against these.
func held(t testing.TB, when string, d *dict.Dict) {
	t.Helper()
	s := d.Store()
	holds := map[int]int{}
	for _, h := range roots(d) {
		holds[h]++
	}
	for _, h := range s.Handles() {
		if s.Held(h) != holds[h] {
			t.Fatalf("%s: Held(%d) = %d, not %d", when, h, s.Held(h), holds[h])
		}
	}
	if found, e := audit.Check(s, roots(d)); len(found) != 0 || e != api.OK {
		t.Fatalf("%s: Check(%v) = %v, %d", when, roots(d), found, e)
	}
	if lost, e := audit.Lost(s, roots(d)); len(lost) != 0 || e != api.OK {
		t.Fatalf("%s: Lost(%v) = %v, %d", when, roots(d), lost, e)
	}
}
