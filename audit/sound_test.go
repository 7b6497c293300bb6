package audit_test

import (
	"reflect"
	"slices"
	"testing"

	"rootcellar/api"
	"rootcellar/audit"
	"rootcellar/node"
	"rootcellar/store"
)

// sound asks for Sound, and sees that the store stays as it is.
func sound(t testing.TB, when string, s *store.Store, root int, want bool) {
	t.Helper()
	before := rows(s)
	if ok, e := audit.Sound(s, root); ok != want || e != api.OK {
		t.Errorf("%s: Sound(%d) = %t, %d, not %t", when, root, ok, e, want)
	}
	same(t, when, s, before)
}

// entries tells those of writes of unlike keys.
func entries(l []api.Write) []api.Pair {
	var next []api.Pair
	for _, w := range l {
		next = append(next, api.Pair{Key: w.Key, Value: w.Value})
	}
	return next
}

func TestSound(t *testing.T) {
	for when, l := range map[string][]api.Write{
		"none": nil, "Z": {set(keyZ, 0)}, "N, a long value": {set(keyN, 1024)}, "Z, Y": {set(keyZ, 1), set(keyY, 2)}, "Z, O": {set(keyZ, 0), set(keyO, 0)},
		"Z, X, Y": {set(keyZ, 0), set(keyX, 0), set(keyY, 0)}, "scattered": many(300, scattered), "near": many(300, near), "a ladder": many(200, ladder),
	} {
		s := fresh(t, 65536)
		root := grown(t, s, 0, l...)
		want, _ := node.Root(entries(l))
		if s.Digest(root) != want {
			t.Errorf("%s: the digest is %x, not %x", when, s.Digest(root), want)
		}
		sound(t, when, s, root, true)
		for i := range min(len(l), 5) { // other versions beside it say nothing of it
			if root != 0 {
				hold(t, s, root)
			}
			other := grown(t, s, root, gone(l[i].Key), set(l[len(l)-1-i].Key, 900+i))
			sound(t, when, s, other, true)
			sound(t, when, s, root, true)
		}
	}
}

// A leaf that is a root, though other nodes have it for a side; one that no caller holds.
func TestSoundOfLeaves(t *testing.T) {
	s := fresh(t, 800)
	root := grown(t, s, 0, set(keyZ, 1), set(keyO, 2), set(keyX, 3))
	for _, h := range s.Handles() {
		if s.Root(h) == api.OK {
			sound(t, "a leaf", s, h, true)
		}
	}
	sound(t, "nothing", s, 0, true)
	sound(t, "the root", s, root, true)
}

// Roots of 4,096 leaves are sound, of one more they are not, however many there are in the store.
func TestSoundOfManyLeaves(t *testing.T) {
	for name, key := range map[string]func(int) api.Path{"scattered": scattered, "near": near} {
		s := fresh(t, 65536)
		l := many(4098, key)
		root := grown(t, s, 0, l[:4095]...)
		sound(t, name, s, root, true)
		root = grown(t, s, root, l[4095])
		want, _ := node.Root(entries(l[:4096]))
		if s.Size(root) != 4096 || s.Digest(root) != want {
			t.Fatalf("%s: Size %d, the digest %x, not %x", name, s.Size(root), s.Digest(root), want)
		}
		sound(t, name, s, root, true)
		hold(t, s, root)
		more := grown(t, s, root, l[4096])
		if s.Size(more) != 4097 {
			t.Fatalf("%s: Size %d", name, s.Size(more))
		}
		sound(t, name, s, more, false)
		sound(t, name, s, root, true)
		finds(t, name, s, []int{root, more})
		more = grown(t, s, more, l[4097])
		sound(t, name, s, more, false)
		more = grown(t, s, more, gone(l[0].Key), gone(l[7].Key))
		sound(t, name, s, more, true)
		more = grown(t, s, more, set(l[0].Key, 1))
		sound(t, name, s, more, false)
	}
}

// The greatest room, full of one tree: it has too many leaves for Sound, and all of its nodes are told.
func TestGreatestRoom(t *testing.T) {
	s := fresh(t, api.MaxNodes)
	root := full(t, s, 0, api.Path{}, 15)
	lone := leaf(t, s, keyZ, nil)
	if s.Occupied() != api.MaxNodes {
		t.Fatalf("%d slots are occupied", s.Occupied())
	}
	sound(t, "32,768 leaves", s, root, false)
	sound(t, "a leaf beside them", s, lone, true)
	finds(t, "both", s, []int{root, lone})
	finds(t, "the one", s, []int{root}, finding(lone, 0, 1))
	tells(t, "the other", s, []int{lone}, []int{lone}, slices.DeleteFunc(s.Handles(), func(h int) bool { return h == lone }), 0)
	tells(t, "64 times over", s, append(slices.Repeat([]int{root}, 63), lone), s.Handles(), nil, 1)
}

// full makes the tree at a depth in which each of the keys with these first bits parts at each bit up to the depth most.
func full(t testing.TB, s *store.Store, d int, key api.Path, most int) int {
	t.Helper()
	if d == most {
		return leaf(t, s, key, nil)
	}
	left := full(t, s, d+1, key, most)
	return inner(t, s, d, left, full(t, s, d+1, flip(key, d), most))
}

// inside tells the bytes of a node's field as the store itself has them: what is written there no call of the store's would do.
func inside(t testing.TB, s *store.Store, h int, field string) []byte {
	t.Helper()
	thing := reflect.ValueOf(s).Elem().FieldByName("cells").Elem().FieldByName("places").Index(h - 1).FieldByName("thing")
	return thing.FieldByName(field).Bytes()
}

// A store that is broken from outside is not sound: a leaf's value or key, the root's digest are others. Digests in between say nothing.
func TestBrokenStores(t *testing.T) {
	s := fresh(t, 3000)
	root := grown(t, s, 0, set(keyZ, 1), set(keyO, 2), set(keyX, 3), set(keyY, 4), set(keyN, 5))
	for _, h := range s.Handles() {
		fields := map[string]bool{"Hash": h != root}
		if s.Kind(h) == api.Leaf {
			fields["key"], fields["value"] = false, false
		}
		for field, want := range fields {
			b := inside(t, s, h, field)
			for _, i := range []int{0, len(b) / 2, len(b) - 1} {
				b[i] ^= 1
				sound(t, field+" broken", s, root, want)
				b[i] ^= 1
				sound(t, field+" mended", s, root, true)
			}
		}
	}
	top, _ := s.Sides(root)
	if s.Kind(top) != api.Inner {
		t.Fatalf("%d is no inner node", top)
	}
	copy(inside(t, s, root, "Hash"), inside(t, s, top, "Hash"))
	sound(t, "another node's digest", s, root, false)
}

// Two leaves of one key are no map's: there is no digest that would be sound, the zero one neither.
func TestBrokenKeys(t *testing.T) {
	s := fresh(t, 3000)
	root := grown(t, s, 0, set(keyZ, 1), set(keyY, 2))
	_, y := s.Sides(root)
	clear(inside(t, s, y, "key"))
	sound(t, "one key twice", s, root, false)
	clear(inside(t, s, root, "Hash"))
	sound(t, "one key twice, the zero digest", s, root, false)
}
