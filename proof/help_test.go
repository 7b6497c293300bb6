package proof_test

import (
	"bytes"
	"fmt"
	"slices"
	"strings"
	"testing"

	"rootcellar/api"
	"rootcellar/dict"
	"rootcellar/proof"
	"rootcellar/sha"
	"rootcellar/tag"
)

// The keys of the document's examples, and the last key of all.
var (
	keyZ = api.Path{}
	keyO = api.Path{31: 1}
	keyX = api.Path{0: 64}
	keyY = api.Path{0: 128}
	keyN = api.Path(bytes.Repeat([]byte{255}, 32))
)

// sixteen are as many names as there may be.
var sixteen = strings.Fields("a b c d e f g h i j k l m n o p")

// strangeNames are no version's, and no names but the last two.
var strangeNames = []string{"x", "2", "-", "A", "one ", "one two", "é", "\xff", "\x00", " ", strings.Repeat("a", 21), strings.Repeat("a", 70000), "missing", strings.Repeat("a", 20)}

// flip turns a key's bit.
func flip(k api.Path, d int) api.Path {
	k[d/8] ^= 1 << (7 - d%8)
	return k
}

// bit tells a key's bit.
func bit(k api.Path, d int) byte { return k[d/8] >> (7 - d%8) & 1 }

// common tells how many first bits of two keys are the same.
func common(a, b api.Path) int {
	for d := range 256 {
		if bit(a, d) != bit(b, d) {
			return d
		}
	}
	return 256
}

// scattered keys are digests; near ones part at the last bits; a ladder's each part from the way of noughts one bit deeper.
func scattered(i int) api.Path { return api.Path(sha.Sum([]byte{byte(i), byte(i >> 8)})) }

func near(i int) api.Path { return api.Path{30: byte(i >> 8), 31: byte(i)} }

func ladder(i int) api.Path { return flip(api.Path{}, i) }

// some tells n bytes that are not all alike.
func some(n int) []byte {
	b := make([]byte, n)
	for i := range b {
		b[i] = byte(7*i + 1)
	}
	return b
}

// digest tells a digest that is no other one's here.
func digest(i int) api.Hash { return sha.Sum([]byte{77, byte(i), byte(i >> 8)}) }

func leaf(key api.Path, value api.Hash) api.Node {
	return api.Node{Kind: api.Leaf, Key: key, Value: value}
}

// leafOf tells a key's leaf with a value.
func leafOf(key api.Path, value string) api.Node { return leaf(key, tag.Value([]byte(value))) }

// sides tells n of them, no two alike, none the empty digest.
func sides(n int) []api.Hash {
	l := make([]api.Hash, n)
	for i := range l {
		l[i] = digest(i)
	}
	return l
}

// empties tells n sides that are the empty digest.
func empties(n int) []api.Hash { return slices.Repeat([]api.Hash{tag.Empty()}, n) }

// up tells the digest at the top of a proof whose end is nothing or a leaf; of sides behind the 256th, which no way has, none counts.
func up(key api.Path, p api.Proof) api.Hash {
	h := tag.Empty()
	if p.End.Kind == api.Leaf {
		h = tag.Leaf(p.End.Key, p.End.Value)
	}
	for d := min(len(p.Sides), 256) - 1; d >= 0; d-- {
		if bit(key, d) == 0 {
			h = tag.Inner(h, p.Sides[d])
		} else {
			h = tag.Inner(p.Sides[d], h)
		}
	}
	return h
}

// fresh makes a dictionary of a room that may be.
func fresh(t testing.TB, room int) *dict.Dict {
	t.Helper()
	d, e := dict.New(room)
	if d == nil || e != api.OK {
		t.Fatalf("New(%d) = %v, %d", room, d, e)
	}
	return d
}

func put(t testing.TB, d *dict.Dict, key api.Path, value string) {
	t.Helper()
	if e := d.Put(key[:], []byte(value)); e != api.OK {
		t.Fatalf("Put(%x, %d bytes) = %d", key, len(value), e)
	}
}

func remove(t testing.TB, d *dict.Dict, key api.Path) {
	t.Helper()
	if _, e := d.Delete(key[:]); e != api.OK {
		t.Fatalf("Delete(%x) = %d", key, e)
	}
}

func write(t testing.TB, d *dict.Dict, l ...api.Raw) {
	t.Helper()
	if e := d.Batch(l); e != api.OK {
		t.Fatalf("Batch of %d = %d", len(l), e)
	}
}

func snapshot(t testing.TB, d *dict.Dict, name string) {
	t.Helper()
	if e := d.Snapshot(name); e != api.OK {
		t.Fatalf("Snapshot(%q) = %d", name, e)
	}
}

// of makes a dictionary of keys, each with a value of its own.
func of(t testing.TB, keys ...api.Path) *dict.Dict {
	t.Helper()
	d := fresh(t, 20000)
	for i, k := range keys {
		put(t, d, k, valueAt(i))
	}
	return d
}

// valueAt tells a value by its place: some are alike, some empty, one is as long as may be.
func valueAt(i int) string {
	if i == 3 {
		return string(some(1024))
	}
	return strings.Repeat(string(rune('a'+i%26)), i%40)
}

// chapter makes the dictionary of the chapter's examples.
func chapter(t testing.TB) *dict.Dict {
	t.Helper()
	d := fresh(t, 600)
	put(t, d, keyZ, "")
	put(t, d, keyY, "")
	return d
}

// likeProofs tells whether two proofs are the same.
func likeProofs(a, b api.Proof) bool { return slices.Equal(a.Sides, b.Sides) && a.End == b.End }

// prove makes a proof that is not refused.
func prove(t testing.TB, d *dict.Dict, name string, key api.Path) api.Proof {
	t.Helper()
	p, e := proof.Prove(d, name, key[:])
	if e != api.OK {
		t.Fatalf("Prove(%q, %x) = %d", name, key, e)
	}
	return p
}

// proves holds Prove against the proof that it should tell.
func proves(t testing.TB, d *dict.Dict, name string, key api.Path, want api.Proof) {
	t.Helper()
	if p := prove(t, d, name, key); !likeProofs(p, want) {
		t.Errorf("Prove(%q, %x) = %x, not %x", name, key, p, want)
	}
}

// unproved sees that Prove refuses, and tells nothing else.
func unproved(t testing.TB, when string, d *dict.Dict, name string, key []byte, want api.Errno) {
	t.Helper()
	if p, e := proof.Prove(d, name, key); len(p.Sides) != 0 || p.End != (api.Node{}) || e != want {
		t.Errorf("%s: Prove(%.30q, %x) = %x, %d, not %d", when, name, key, p, e, want)
	}
}

// says holds Says against there, and the digest of a value.
func says(t testing.TB, when string, key api.Path, p api.Proof, there bool, value api.Hash) {
	t.Helper()
	if ok, h := proof.Says(key, p); ok != there || h != value {
		t.Errorf("%s: Says(%x) = %t, %x, not %t, %x", when, key, ok, h, there, value)
	}
}

// absent sees that a proof says that a key is not there.
func absent(t testing.TB, when string, key api.Path, p api.Proof) {
	t.Helper()
	says(t, when, key, p, false, api.Hash{})
}

// holds holds Holds against what it should answer of a proof that may be.
func holds(t testing.TB, when string, root api.Hash, key api.Path, p api.Proof, want bool) {
	t.Helper()
	if ok, e := proof.Holds(root, key, p); ok != want || e != api.OK {
		t.Errorf("%s: Holds(%x, %x) = %t, %d, not %t", when, root, key, ok, e, want)
	}
}

// refused sees that Holds refuses a proof, whatever root is told.
func refused(t testing.TB, when string, key api.Path, p api.Proof, want api.Errno) {
	t.Helper()
	for _, root := range []api.Hash{{}, tag.Empty(), up(key, p), digest(1)} {
		if ok, e := proof.Holds(root, key, p); ok || e != want {
			t.Errorf("%s: Holds(%x, %x) = %t, %d, not %d", when, root, key, ok, e, want)
		}
	}
}

func short(t testing.TB, when string, p api.Proof, want int) {
	t.Helper()
	if n := proof.Short(p); n != want {
		t.Errorf("%s: Short = %d, not %d", when, n, want)
	}
}

// rootOf tells a root that is not refused.
func rootOf(t testing.TB, d *dict.Dict, name string) api.Hash {
	t.Helper()
	root, e := d.Root(name)
	if e != api.OK {
		t.Fatalf("Root(%q) = %d", name, e)
	}
	return root
}

// told tells all that a dictionary and its store tell.
func told(d *dict.Dict) string {
	var b strings.Builder
	s := d.Store()
	fmt.Fprintln(&b, d.Names(), d.Occupied(), d.Room())
	for _, name := range append(d.Names(), "") {
		root, e := d.Root(name)
		n, f := d.Len(name)
		h, g := d.Handle(name)
		fmt.Fprintf(&b, "%q %x %d, %d %d, %d %d\n", name, root, int(e), n, int(f), h, int(g))
	}
	for _, h := range s.Handles() {
		left, right := s.Sides(h)
		fmt.Fprintf(&b, "%d %d %d %x %x %d %d %x %d %d %d\n", h, s.Kind(h), s.Depth(h), s.Key(h), s.Value(h), left, right, s.Digest(h), s.Size(h), s.Count(h), s.Held(h))
	}
	return b.String()
}

// unchanged sees that calls leave all that a dictionary tells as it was.
func unchanged(t testing.TB, when string, d *dict.Dict, calls func()) {
	t.Helper()
	before := told(d)
	calls()
	if after := told(d); after != before {
		t.Fatalf("%s: all is now\n%snot\n%s", when, after, before)
	}
}
