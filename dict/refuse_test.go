package dict_test

import (
	"bytes"
	"fmt"
	"math"
	"slices"
	"strings"
	"testing"

	"rootcellar/api"
	"rootcellar/dict"
)

// Keys of other numbers of bytes than 32, wherever a key is asked for.
func TestKeys(t *testing.T) {
	d := fresh(t, 2000)
	put(t, d, keyZ, "z")
	snapshot(t, d, "one")
	for _, n := range []int{0, 1, 31, 33, 64, 288, 65568} {
		k := make([]byte, n)
		unchanged(t, fmt.Sprint(n), d, func() {
			if e := d.Put(k, nil); e != api.ErrKey {
				t.Errorf("Put of a key of %d bytes = %d", n, e)
			}
			if there, e := d.Delete(k); there || e != api.ErrKey {
				t.Errorf("Delete of a key of %d bytes = %t, %d", n, there, e)
			}
			for _, l := range [][]api.Raw{{{Key: k}}, {{Key: k, Gone: true}}, {plus(keyY, ""), {Key: k}}, {{Key: k}, plus(keyY, "")}, {gone(keyZ), {Key: k, Gone: true}, plus(keyX, "")}} {
				if e := d.Batch(l); e != api.ErrKey {
					t.Errorf("Batch with a key of %d bytes = %d", n, e)
				}
			}
			for _, name := range []string{"", "one"} {
				if v, there, e := d.Get(name, k); v != nil || there || e != api.ErrKey {
					t.Errorf("Get of a key of %d bytes = %q, %t, %d", n, v, there, e)
				}
				if l, e := d.Some(name, k, 5); len(l) != 0 || e != api.ErrKey {
					t.Errorf("Some of a key of %d bytes = %v, %d", n, l, e)
				}
			}
		})
	}
	if e := d.Put(nil, nil); e != api.ErrKey {
		t.Errorf("Put of no key = %d", e)
	}
	if e := d.Batch(make([]api.Raw, 1)); e != api.ErrKey {
		t.Errorf("Batch of the zero write = %d", e)
	}
}

// fault is one of the things that may be wrong with a call, in the order in which they are told.
type fault struct {
	name string
	want api.Errno
}

// eachSet goes over all sets of faults, with the error that is told of each.
func eachSet(faults []fault, try func(when string, wrong map[string]int, want api.Errno)) {
	for set := range 1 << len(faults) {
		wrong, want := map[string]int{}, api.OK
		var when []string
		for i, f := range faults {
			if set>>i&1 == 0 {
				continue
			}
			wrong[f.name] = 1
			when = append(when, f.name)
			if want == api.OK {
				want = f.want
			}
		}
		try(strings.Join(when, ", "), wrong, want)
	}
}

// oneOf tells the good thing, or the other one where a fault is wanted.
func oneOf[T any](wrong map[string]int, name string, good, bad T) T {
	if wrong[name] > 0 {
		return bad
	}
	return good
}

// subject makes the dictionary of a set of faults: nil, one without room for a write, or one with room; with a version, or with 16.
func subject(t testing.TB, wrong map[string]int) *dict.Dict {
	t.Helper()
	if wrong["nil"] > 0 {
		return nil
	}
	d := fresh(t, oneOf(wrong, "full", 20000, 300))
	put(t, d, keyZ, "z")
	put(t, d, flip(keyZ, 100), "another")
	snapshot(t, d, "there")
	if wrong["sixteen"] > 0 {
		for _, name := range sixteen[1:] {
			snapshot(t, d, name)
		}
	}
	return d
}

// refused sees that a call answers an error, or OK, and that nothing has changed behind an error; the dictionary may be nil.
func refused(t testing.TB, when string, d *dict.Dict, want api.Errno, call func() api.Errno) {
	t.Helper()
	before := ""
	if d != nil {
		before = told(d)
	}
	if e := call(); e != want {
		t.Fatalf("%s: %d, not %d", when, e, want)
	}
	if d == nil {
		return
	}
	if after := told(d); want != api.OK && after != before {
		t.Fatalf("%s: behind a refused call all is\n%snot\n%s", when, after, before)
	}
	ofItself(t, when, d)
}

// Of all sets of errors, at every call that writes, the one that is named first is told.
func TestWhichErrorOfAWriteComesFirst(t *testing.T) {
	faults := []fault{{"nil", api.ErrNil}, {"key", api.ErrKey}, {"long", api.ErrLong}, {"full", api.ErrStoreFull}}
	eachSet(faults, func(when string, wrong map[string]int, want api.Errno) {
		d := subject(t, wrong)
		refused(t, "Put: "+when, d, want, func() api.Errno {
			return d.Put(make([]byte, oneOf(wrong, "key", 32, 31)), make([]byte, oneOf(wrong, "long", 1024, 1025)))
		})
	})
	eachSet(slices.Delete(slices.Clone(faults), 2, 3), func(when string, wrong map[string]int, want api.Errno) {
		d := subject(t, wrong)
		refused(t, "Delete: "+when, d, want, func() api.Errno {
			there, e := d.Delete(make([]byte, oneOf(wrong, "key", 32, 33)))
			if there != (want == api.OK) {
				t.Errorf("Delete: %s: %t", when, there)
			}
			return e
		})
	})
}

func TestWhichErrorOfABatchComesFirst(t *testing.T) {
	faults := []fault{{"nil", api.ErrNil}, {"key", api.ErrKey}, {"many", api.ErrLong}, {"long", api.ErrLong}, {"full", api.ErrStoreFull}}
	eachSet(faults, func(when string, wrong map[string]int, want api.Errno) {
		for _, at := range []int{0, 1, 63} { // what is wrong stands at the front, amid, at the end: the order is the errors', not the writes'
			d := subject(t, wrong)
			l := many(oneOf(wrong, "many", 64, 65), near)
			l[at].Value = make([]byte, oneOf(wrong, "long", 1024, 1025))
			l[63-at].Key = l[63-at].Key[:oneOf(wrong, "key", 32, 31)]
			refused(t, "Batch: "+when, d, want, func() api.Errno { return d.Batch(l) })
		}
	})
}

func TestWhichErrorOfAReadingComesFirst(t *testing.T) {
	faults := []fault{{"nil", api.ErrNil}, {"key", api.ErrKey}, {"missing", api.ErrMissing}, {"most", api.ErrArg}}
	for _, none := range strangeNames {
		eachSet(faults, func(when string, wrong map[string]int, want api.Errno) {
			d := subject(t, wrong)
			key, name := make([]byte, oneOf(wrong, "key", 32, 31)), oneOf(wrong, "missing", "there", none)
			for _, most := range oneOf(wrong, "most", []int{256, 0}, []int{257, -1}) {
				refused(t, "Some: "+when, d, want, func() api.Errno {
					l, e := d.Some(name, key, most)
					if len(l) != 0 && want != api.OK {
						t.Errorf("Some: %s: %v", when, l)
					}
					return e
				})
			}
			if wrong["most"] > 0 {
				return
			}
			refused(t, "Get: "+when, d, want, func() api.Errno {
				v, there, e := d.Get(name, key)
				if ok := want == api.OK; there != ok || ok && string(v) != "z" || !ok && v != nil {
					t.Errorf("Get: %s: %q, %t", when, v, there)
				}
				return e
			})
			if wrong["key"] == 0 {
				readTree(t, when, d, name, want)
			}
		})
	}
}

// readTree sees Root, Len and Handle of a tree that has two entries, or the error of which is known.
func readTree(t testing.TB, when string, d *dict.Dict, name string, want api.Errno) {
	t.Helper()
	refused(t, "Root: "+when, d, want, func() api.Errno {
		root, e := d.Root(name)
		if (root == api.Hash{}) != (want != api.OK) {
			t.Errorf("Root: %s: %x", when, root)
		}
		return e
	})
	refused(t, "Len: "+when, d, want, func() api.Errno {
		n, e := d.Len(name)
		if n != 2 && want == api.OK || n != 0 && want != api.OK {
			t.Errorf("Len: %s: %d", when, n)
		}
		return e
	})
	refused(t, "Handle: "+when, d, want, func() api.Errno {
		h, e := d.Handle(name)
		if (h == 0) != (want != api.OK) {
			t.Errorf("Handle: %s: %d", when, h)
		}
		return e
	})
}

// Snapshot names ErrVersions ahead of ErrThere, though versions.Add has them the other way round.
func TestWhichErrorOfAVersionComesFirst(t *testing.T) {
	faults := []fault{{"nil", api.ErrNil}, {"name", api.ErrName}, {"sixteen", api.ErrVersions}, {"there", api.ErrThere}}
	for _, none := range []string{"", "2", "A", strings.Repeat("a", 21)} {
		eachSet(faults, func(when string, wrong map[string]int, want api.Errno) {
			d := subject(t, wrong)
			name := oneOf(wrong, "name", oneOf(wrong, "there", "new", "there"), none)
			refused(t, "Snapshot: "+when, d, want, func() api.Errno { return d.Snapshot(name) })
		})
	}
	for _, none := range append(slices.Clone(strangeNames), "") {
		eachSet([]fault{{"nil", api.ErrNil}, {"missing", api.ErrMissing}, {"full", api.OK}}, func(when string, wrong map[string]int, want api.Errno) {
			d := subject(t, wrong)
			name := oneOf(wrong, "missing", "there", none)
			if wrong["nil"] == 0 && wrong["missing"] > 0 {
				want = api.ErrMissing // a full store is no error of these
			}
			refused(t, "Rollback: "+when, d, want, func() api.Errno { return d.Rollback(name) })
			refused(t, "Prune: "+when, d, want, func() api.Errno { return d.Prune(name) })
		})
	}
}

// With two entries that part at the bit c there are c + 3 nodes: a write is taken, if there are 258 slots for it, and refused with one less, whatever it would change.
func TestRoomForOneKey(t *testing.T) {
	for _, c := range []int{0, 1, 2, 50, 83, 84, 85, 200, 254, 255} {
		nodes := c + 3
		other := flip(keyZ, c)
		calls := map[string]func(d *dict.Dict) api.Errno{
			"a new key":           func(d *dict.Dict) api.Errno { return d.Put(lastKey[:], []byte("new")) },
			"another value":       func(d *dict.Dict) api.Errno { return d.Put(keyZ[:], []byte("new")) },
			"the value there":     func(d *dict.Dict) api.Errno { return d.Put(keyZ[:], []byte("z")) },
			"a delete":            func(d *dict.Dict) api.Errno { _, e := d.Delete(other[:]); return e },
			"a delete of nothing": func(d *dict.Dict) api.Errno { _, e := d.Delete(lastKey[:]); return e },
			"a batch":             func(d *dict.Dict) api.Errno { return d.Batch([]api.Raw{plus(keyZ, "new")}) },
			"a batch of nothing new": func(d *dict.Dict) api.Errno {
				return d.Batch([]api.Raw{gone(lastKey), gone(lastKey), gone(lastKey)})
			},
		}
		for when, call := range calls {
			for short := range 3 {
				room := nodes + 258 - short
				d := fresh(t, max(room, 259))
				put(t, d, keyZ, "z")
				put(t, d, other, "other")
				occupied(t, when, d, nodes)
				want := api.OK
				if nodes+258 > d.Room() {
					want = api.ErrStoreFull
				}
				refused(t, fmt.Sprintf("%s, %d nodes in %d", when, nodes, d.Room()), d, want, func() api.Errno { return call(d) })
				if want == api.OK && d.Occupied() > nodes+258 {
					t.Errorf("%s: %d nodes became %d", when, nodes, d.Occupied())
				}
			}
		}
	}
}

// Example 6: a dictionary of room 600 takes a put with 342 slots occupied, and none with 343.
func TestRoomSixHundred(t *testing.T) {
	for _, nodes := range []int{341, 342, 343} {
		d := fresh(t, 600)
		put(t, d, keyZ, "z")
		put(t, d, keyO, "o")
		put(t, d, keyY, "y")                          // 259 nodes
		put(t, d, flip(keyY, nodes-259-1), "y again") // from the depth 1 on as many inner nodes as the bit says, and a leaf
		occupied(t, "filled", d, nodes)
		want := api.OK
		if nodes > 342 {
			want = api.ErrStoreFull
		}
		for when, call := range map[string]func() api.Errno{
			"Batch of what is there": func() api.Errno { return d.Batch([]api.Raw{plus(keyZ, "z")}) },
			"Put of what is there":   func() api.Errno { return d.Put(keyZ[:], []byte("z")) },
			"Delete of nothing":      func() api.Errno { _, e := d.Delete(lastKey[:]); return e },
		} {
			refused(t, fmt.Sprint(when, " with ", nodes), d, want, call)
		}
		refused(t, fmt.Sprint("Put with ", nodes), d, want, func() api.Errno { return d.Put(keyX[:], nil) })
	}
}

// A batch wants 258 slots for each unlike key, and for none that is written again.
func TestRoomForMany(t *testing.T) {
	for _, unlike := range []int{0, 1, 2, 3, 17, 63, 64} {
		for _, again := range []int{0, 1, 64 - unlike} {
			l := many(unlike, near)
			for i := range again {
				if unlike > 0 && len(l) < 64 {
					l = append(l, api.Raw{Key: l[i%unlike].Key, Gone: i%2 == 0, Value: []byte("again")})
				}
			}
			for _, nodes := range []int{0, 1, 258} {
				for _, less := range []int{0, 1} {
					room := nodes + 258*unlike - less
					if room < max(1, nodes) || nodes > 0 && room < 258+nodes/258 {
						continue // what fills it would not be taken itself
					}
					d := fresh(t, room)
					for _, k := range []api.Path{keyY, flip(keyY, 255)}[:min(nodes, 1)+nodes/258] {
						put(t, d, k, "ahead")
					}
					occupied(t, "filled", d, nodes)
					want := api.OK
					if less > 0 {
						want = api.ErrStoreFull
					}
					refused(t, fmt.Sprintf("%d keys, %d writes, %d nodes in %d", unlike, len(l), nodes, room), d, want, func() api.Errno { return d.Batch(l) })
				}
			}
		}
	}
}

// No write is taken in a room of less than 258 slots; all else is.
func TestSmallRooms(t *testing.T) {
	for _, room := range []int{1, 2, 128, 256, 257} {
		d := fresh(t, room)
		for range 2 {
			unchanged(t, "small", d, func() {
				if e := d.Put(keyZ[:], nil); e != api.ErrStoreFull {
					t.Errorf("room %d: Put = %d", room, e)
				}
				if there, e := d.Delete(keyZ[:]); there || e != api.ErrStoreFull {
					t.Errorf("room %d: Delete = %t, %d", room, there, e)
				}
				if e := d.Batch([]api.Raw{gone(keyZ)}); e != api.ErrStoreFull {
					t.Errorf("room %d: Batch = %d", room, e)
				}
				if e := d.Batch(nil); e != api.OK {
					t.Errorf("room %d: Batch of none = %d", room, e)
				}
			})
			snapshot(t, d, "one")
			rollback(t, d, "one")
			whole(t, d, "one", nil)
			prune(t, d, "one")
		}
	}
	d := fresh(t, 258)
	put(t, d, keyZ, "") // the only write that is ever taken
	refused(t, "room 258", d, api.ErrStoreFull, func() api.Errno { _, e := d.Delete(keyZ[:]); return e })
	refused(t, "room 258", d, api.OK, func() api.Errno { return d.Batch(nil) })
}

// The greatest room, filled up to the last write that is taken.
func TestGreatestRoom(t *testing.T) {
	d := fresh(t, 65536)
	n, e := 0, api.OK
	for e == api.OK {
		nodes := d.Occupied()
		k := flip(api.Path{0: byte(n >> 1), 1: byte(n >> 9)}, 255-n%2) // two by two they part at the last bits, which takes many nodes
		e = d.Put(k[:], nil)
		if want := nodes+258 <= 65536; want != (e == api.OK) || !want && e != api.ErrStoreFull {
			t.Fatalf("Put with %d nodes = %d", nodes, e)
		}
		if d.Occupied() > nodes+258 {
			t.Fatalf("%d nodes became %d", nodes, d.Occupied())
		}
		n++
	}
	if got, f := d.Len(""); got != n-1 || f != api.OK || d.Occupied() <= 65536-258 {
		t.Errorf("Len %d, %d, not %d; Occupied %d", got, f, n-1, d.Occupied())
	}
}

// Calls that are refused leave no trace: with them amid and without them all that is told is the same, handles too.
func TestRefusedCallsLeaveNoTrace(t *testing.T) {
	plain, teased := fresh(t, 1500), fresh(t, 1500)
	numbers := chance(3)
	for i := range 400 {
		x, y := numbers.next(), numbers.next()
		for _, d := range []*dict.Dict{plain, teased} {
			k := [3]func(int) api.Path{scattered, near, ladder}[y%3](int(x) % 9)
			switch i % 7 {
			case 0, 1, 2:
				d.Put(k[:], []byte{y})
			case 3:
				d.Delete(k[:])
			case 4:
				d.Batch([]api.Raw{plus(k, "batch"), gone(flip(k, 3))})
			case 5:
				d.Snapshot(sixteen[x%16])
			default:
				if y%2 == 0 {
					d.Rollback(sixteen[x%16])
				}
				d.Prune(sixteen[y%16])
			}
		}
		tease(t, teased)
		if a, b := told(plain), told(teased); a != b {
			t.Fatalf("step %d:\n%snot\n%s", i, b, a)
		}
	}
}

// tease has a dictionary refuse a call of each kind.
func tease(t testing.TB, d *dict.Dict) {
	t.Helper()
	_, f := d.Delete(some(33))
	_, _, g := d.Get("missing", keyZ[:])
	_, h := d.Some("", keyZ[:], 257)
	l := []api.Errno{
		d.Put(some(31), nil), d.Put(keyZ[:], some(1025)), f, d.Batch(many(65, near)), d.Batch([]api.Raw{plus(keyZ, "z"), {Key: some(31)}}),
		d.Batch([]api.Raw{gone(keyZ), plus(keyY, string(some(1025)))}), d.Batch(many(64, near)), g, h, d.Snapshot("2"), d.Rollback("missing"), d.Prune("missing"),
	}
	want := []api.Errno{
		api.ErrKey, api.ErrLong, api.ErrKey, api.ErrLong, api.ErrKey,
		api.ErrLong, api.ErrStoreFull, api.ErrMissing, api.ErrArg, api.ErrName, api.ErrMissing, api.ErrMissing,
	}
	if !slices.Equal(l, want) {
		t.Fatalf("refused with %d, not %d", l, want)
	}
}

// none are dictionaries that New did not answer.
func none(d *dict.Dict) map[string]*dict.Dict {
	copied := *d
	copiedAgain := copied
	return map[string]*dict.Dict{"nil": nil, "laid down": {}, "new": new(dict.Dict), "copied": &copied, "copied twice": &copiedAgain}
}

// Each method of a dictionary that New did not answer answers ErrNil, ahead of all else, or zero values.
func TestDictionariesThatNewDidNotAnswer(t *testing.T) {
	d := fresh(t, 2000)
	put(t, d, keyZ, "z")
	snapshot(t, d, "one")
	put(t, d, keyY, "y")
	for when, no := range none(d) {
		unchanged(t, when, d, func() {
			for _, key := range [][]byte{nil, some(31), keyZ[:], keyX[:], some(33)} {
				writeToNone(t, when, no, key)
				for _, name := range []string{"", "one", "two", "2"} {
					readNone(t, when, no, name, key)
				}
			}
			if l := no.Names(); len(l) != 0 {
				t.Errorf("%s: Names = %q", when, l)
			}
			if no.Occupied() != 0 || no.Room() != 0 || no.Store() != nil {
				t.Errorf("%s: Occupied %d, Room %d, Store %v", when, no.Occupied(), no.Room(), no.Store())
			}
		})
	}
}

func writeToNone(t testing.TB, when string, no *dict.Dict, key []byte) {
	t.Helper()
	for _, n := range []int{0, 1024, 1025} {
		if e := no.Put(key, some(n)); e != api.ErrNil {
			t.Errorf("%s: Put = %d", when, e)
		}
		for _, many := range []int{0, 1, 64, 65} {
			if e := no.Batch(slices.Repeat([]api.Raw{{Key: key, Value: some(n)}}, many)); e != api.ErrNil {
				t.Errorf("%s: Batch = %d", when, e)
			}
		}
	}
	if there, e := no.Delete(key); there || e != api.ErrNil {
		t.Errorf("%s: Delete = %t, %d", when, there, e)
	}
}

func readNone(t testing.TB, when string, no *dict.Dict, name string, key []byte) {
	t.Helper()
	if v, there, e := no.Get(name, key); v != nil || there || e != api.ErrNil {
		t.Errorf("%s: Get = %q, %t, %d", when, v, there, e)
	}
	if root, e := no.Root(name); root != (api.Hash{}) || e != api.ErrNil {
		t.Errorf("%s: Root = %x, %d", when, root, e)
	}
	if n, e := no.Len(name); n != 0 || e != api.ErrNil {
		t.Errorf("%s: Len = %d, %d", when, n, e)
	}
	for _, most := range []int{-1, 0, 5, 257} {
		if l, e := no.Some(name, key, most); len(l) != 0 || e != api.ErrNil {
			t.Errorf("%s: Some = %v, %d", when, l, e)
		}
	}
	if h, e := no.Handle(name); h != 0 || e != api.ErrNil {
		t.Errorf("%s: Handle = %d, %d", when, h, e)
	}
	if e, f, g := no.Snapshot(name), no.Rollback(name), no.Prune(name); e != api.ErrNil || f != api.ErrNil || g != api.ErrNil {
		t.Errorf("%s: Snapshot, Rollback, Prune = %d, %d, %d", when, e, f, g)
	}
}

// Whoever drops more than was theirs breaks the store; still every call ends with an answer, and none panics.
func TestCallersDropMoreThanTheirs(t *testing.T) {
	for _, fill := range []bool{false, true} {
		d := fresh(t, 3000)
		write(t, d, plus(keyZ, "z"), plus(keyX, "x"), plus(keyY, "y"))
		snapshot(t, d, "one")
		put(t, d, keyO, "o")
		for _, h := range roots(d) {
			for d.Store().Held(h) > 0 {
				d.Store().Drop(h)
			}
		}
		if fill { // other nodes stand where the roots were
			for i := range 9 {
				d.Store().Leaf(scattered(i), nil)
			}
		}
		for _, name := range []string{"", "one"} {
			d.Get(name, keyZ[:])
			d.Root(name)
			d.Len(name)
			d.Some(name, keyZ[:], 256)
			d.Handle(name)
		}
		d.Put(keyZ[:], nil)
		d.Delete(keyZ[:])
		d.Batch([]api.Raw{gone(keyX), plus(keyO, "")})
		d.Snapshot("two")
		d.Rollback("one")
		d.Prune("one")
		d.Put(keyZ[:], nil)
		d.Names()
	}
}

// A node that the store can't count once more is not named, not taken back and not shared by a new tree, and nothing has changed; to take back what is current needs no hold.
func TestGreatestCount(t *testing.T) {
	if testing.Short() {
		t.Skip("it takes some seconds")
	}
	d := fresh(t, 2000)
	snapshot(t, d, "none")
	put(t, d, keyZ, "z")
	snapshot(t, d, "one")
	leaf, _ := d.Handle("")
	s := d.Store()
	for range api.MaxCount - 2 {
		s.Hold(leaf)
	}
	unchanged(t, "at its greatest", d, func() {
		if e, f := d.Snapshot("two"), d.Rollback("one"); e != api.ErrLong || f != api.OK {
			t.Errorf("Snapshot, Rollback = %d, %d", e, f)
		}
	})
	rollback(t, d, "none")
	if n := s.Held(leaf); n != api.MaxCount-1 {
		t.Errorf("held %d times", n)
	}
	s.Hold(leaf)
	unchanged(t, "at its greatest again", d, func() {
		if e := d.Rollback("one"); e != api.ErrLong {
			t.Errorf("Rollback = %d", e)
		}
	})
	s.Drop(leaf)
	rollback(t, d, "one")
	has(t, d, "", keyZ, "z")
	put(t, d, keyY, "y") // the current root's hold is a side now
	snapshot(t, d, "both")
	unchanged(t, "a side at its greatest", d, func() {
		there, e := d.Delete(keyY[:])
		if f, g := d.Put(keyY[:], nil), d.Batch([]api.Raw{plus(keyY, "")}); there || e != api.ErrLong || f != api.ErrLong || g != api.ErrLong {
			t.Errorf("Delete, Put, Batch = %t, %d, %d, %d", there, e, f, g)
		}
	})
	s.Drop(leaf)
	put(t, d, keyY, "")
	has(t, d, "", keyZ, "z")
	has(t, d, "both", keyY, "y")
}

// Arguments at the ends of their types are refused or taken as any others.
func TestStrangeArguments(t *testing.T) {
	d := fresh(t, 3000)
	put(t, d, lastKey, "last")
	if l, e := d.Some("", lastKey[:], 256); len(l) != 1 || e != api.OK || l[0].Key != lastKey || string(l[0].Value) != "last" {
		t.Errorf("Some from the last key = %v, %d", l, e)
	}
	for _, most := range []int{math.MinInt, math.MaxInt} {
		if l, e := d.Some("", bytes.Clone(lastKey[:]), most); len(l) != 0 || e != api.ErrArg {
			t.Errorf("Some(%d) = %v, %d", most, l, e)
		}
	}
	remove(t, d, lastKey, true)
	occupied(t, "none", d, 0)
}
