package list_test

import (
	"bytes"
	"fmt"
	"iter"
	"math"
	"slices"
	"testing"

	"rootcellar/api"
	"rootcellar/list"
	"rootcellar/store"
)

// both tells the iterators of a root that go over all of its entries.
func both(s *store.Store, root int) map[string]iter.Seq2[api.Path, []byte] {
	return map[string]iter.Seq2[api.Path, []byte]{"All": list.All(s, root), "From": list.From(s, root, keyZ)}
}

// trees tells writes that make some, by name.
func trees() map[string][]api.Write {
	return map[string][]api.Write{
		"none": nil, "Z": {set(keyZ, 4)}, "N": {set(keyN, 0)}, "Z, Y": {set(keyZ, 1), set(keyY, 2)}, "Z, O": {set(keyZ, 3), set(keyO, 0)},
		"Z, X, Y": {set(keyZ, 9), set(keyX, 8), set(keyY, 7)}, "scattered": many(30, scattered), "near": many(30, near), "a ladder": many(30, ladder), "a stair": many(30, stair),
	}
}

// Broken off behind each of the entries: just so many are told, and none behind.
func TestBrokenOff(t *testing.T) {
	for when, w := range trees() {
		s := fresh(t, 20000)
		root, l := grown(t, s, 0, w...), entries(w)
		for name, all := range both(s, root) {
			for n := range len(l) + 1 {
				var got []api.Pair
				all(func(key api.Path, value []byte) bool {
					got = append(got, api.Pair{Key: key, Value: value})
					return len(got) <= n
				})
				if want := l[:min(n+1, len(l))]; !alike(got, want) {
					t.Errorf("%s: %s stopped behind %d goes over %v, not %v", when, name, n, got, want)
				}
			}
			if got := collect(all); !alike(got, l) {
				t.Errorf("%s: %s behind all stops goes over %v, not %v", when, name, got, l)
			}
		}
	}
}

// From each key on, broken off behind each of the entries.
func TestFromBrokenOff(t *testing.T) {
	w := many(12, scattered)
	s := fresh(t, 20000)
	root, l := grown(t, s, 0, w...), entries(w)
	for _, key := range probes(l) {
		rest := fromOf(l, key)
		all := list.From(s, root, key)
		for n := range len(rest) {
			var got []api.Pair
			for key, value := range all {
				got = append(got, api.Pair{Key: key, Value: value})
				if len(got) > n {
					break
				}
			}
			if !alike(got, rest[:n+1]) {
				t.Errorf("From(%x) broken off behind %d goes over %v, not %v", key, n+1, got, rest[:n+1])
			}
		}
	}
}

// One within the other: an iterator within itself, and within another one.
func TestOneWithinTheOther(t *testing.T) {
	for when, w := range trees() {
		s := fresh(t, 20000)
		root, l := grown(t, s, 0, w...), entries(w)
		all, from := list.All(s, root), list.From(s, root, keyX)
		var outer []api.Pair
		for key, value := range all {
			outer = append(outer, api.Pair{Key: key, Value: value})
			if got := collect(all); !alike(got, l) {
				t.Errorf("%s: within itself All goes over %v, not %v", when, got, l)
			}
			if got := collect(from); !alike(got, fromOf(l, keyX)) {
				t.Errorf("%s: within All From goes over %v", when, got)
			}
			for range all { // broken off within itself
				break
			}
		}
		if !alike(outer, l) {
			t.Errorf("%s: with others within it All goes over %v, not %v", when, outer, l)
		}
	}
}

// While nodes are made and dropped an iterator goes over what was there at the call.
func TestWhileNodesAreMadeAndDropped(t *testing.T) {
	for when, w := range trees() {
		l := entries(w)
		for _, name := range []string{"All", "From"} {
			s := fresh(t, 20000)
			root := grown(t, s, 0, w...)
			var got []api.Pair
			for key, value := range both(s, root)[name] {
				got = append(got, api.Pair{Key: key, Value: value})
				i := len(got)
				root = grown(t, s, root, gone(l[len(l)-i].Key), set(l[i*7%len(l)].Key, 50+i), set(near(100+i), i), gone(key))
			}
			if !alike(got, l) {
				t.Errorf("%s: while nodes are made and dropped %s goes over %v, not %v", when, name, got, l)
			}
			if n, e := list.Count(s, root); e != api.OK || len(l) > 0 && n == 0 {
				t.Errorf("%s: behind it Count is %d, %d", when, n, e)
			}
		}
	}
}

// The root let go of ahead of the first entry, or in the midst, its slots taken by others.
func TestRootLetGo(t *testing.T) {
	for when, w := range trees() {
		l := entries(w)
		for at := range len(l) + 1 {
			for _, name := range []string{"All", "From"} {
				s := fresh(t, 8300)
				root := grown(t, s, 0, w...)
				all := both(s, root)[name]
				if at == 0 {
					replace(t, s, root)
				}
				var got []api.Pair
				for key, value := range all {
					got = append(got, api.Pair{Key: key, Value: value})
					if len(got) == at {
						replace(t, s, root)
					}
				}
				if !alike(got, l) {
					t.Errorf("%s: with the root let go behind %d %s goes over %v, not %v", when, at, name, got, l)
				}
				if again := collect(all); !alike(again, l) {
					t.Errorf("%s: with the root let go behind %d %s goes again over %v, not %v", when, at, name, again, l)
				}
			}
		}
	}
}

// replace lets go of a root, and has others take all slots that become free.
func replace(t testing.TB, s *store.Store, root int) {
	t.Helper()
	n := s.Occupied()
	if root != 0 {
		letGo(t, s, root)
	}
	for i := range n {
		leaf(t, s, scattered(500+i), noise(30+i%20))
	}
}

// What an iterator goes over was there at the call that gave it, not at its first entry: no entry comes to it, and none to one of a root that was refused.
func TestWhatIsMadeLater(t *testing.T) {
	s := fresh(t, 2000)
	nothing, refused, low := list.All(s, 0), list.All(s, 1), list.From(s, 3, keyZ)
	inner(t, s, 1, leaf(t, s, keyZ, noise(1)), leaf(t, s, keyX, noise(2)))
	depth := list.All(s, 3)
	letGo(t, s, 3)
	leaf(t, s, keyY, noise(3)) // in one of the three slots
	leaf(t, s, keyY, noise(4))
	leaf(t, s, keyY, noise(5))
	for when, all := range map[string]iter.Seq2[api.Path, []byte]{"nothing": nothing, "no node's": refused, "no node's, from a key": low, "of depth 1": depth} {
		if got := collect(all); len(got) > 0 {
			t.Errorf("the iterator of %s goes over %v", when, got)
		}
	}
}

// A store that is written over by hand is none any more: the iterators that it gave go on.
func TestStoreWrittenOver(t *testing.T) {
	s, root, l := abc(t)
	all, from := list.All(s, root), list.From(s, root, keyX)
	*s = store.Store{}
	if got := collect(all); !alike(got, l) {
		t.Errorf("All goes over %v", got)
	}
	if got := collect(from); !alike(got, l[1:]) {
		t.Errorf("From goes over %v", got)
	}
	refuses(t, "the store", s, root, api.ErrNil)
}

// Values that were told may be written over: no other one changes, nor the store, nor what is told later.
func TestValuesMayBeWrittenOver(t *testing.T) {
	for when, w := range trees() {
		s := fresh(t, 20000)
		root, l := grown(t, s, 0, w...), entries(w)
		before := rows(s)
		for name, all := range both(s, root) {
			for range 3 {
				got := collect(all)
				other := collect(all)
				apart(t, when+", "+name, got, l)
				if !alike(other, l) {
					t.Fatalf("%s: %s shares values with itself, gone over twice", when, name)
				}
			}
			for _, value := range all { // at once, while it goes
				spoil(value)
			}
			if got := collect(all); !alike(got, l) {
				t.Fatalf("%s: %s goes over %v behind values that are written over", when, name, got)
			}
		}
		one, _ := list.Some(s, root, keyZ, 256)
		two, _ := list.Some(s, root, keyZ, 256)
		apart(t, when+", Some", one, l)
		if !alike(two, l) {
			t.Fatalf("%s: Some's lists share values", when)
		}
		clear(two[:cap(two)]) // the list itself, its spare room too
		for n := range l {
			p, _ := list.Nth(s, root, n)
			q, _ := list.Nth(s, root, n)
			spoil(p.Value)
			if !alike([]api.Pair{q}, l[n:n+1]) {
				t.Fatalf("%s: Nth's values share memory", when)
			}
		}
		same(t, when, s, before)
		lists(t, when, s, root, l)
	}
}

// apart writes over values one by one, and sees that those behind it stay.
func apart(t testing.TB, when string, got, want []api.Pair) {
	t.Helper()
	for i := range got {
		if !alike(got[i:], want[i:]) {
			t.Fatalf("%s: values share memory: behind the first %d there are %v, not %v", when, i, got[i:], want[i:])
		}
		spoil(got[i].Value)
	}
	for i := range got { // and those ahead of it
		if n := len(want[i].Value); !bytes.Equal(got[i].Value, bytes.Repeat([]byte{0xee}, n)) {
			t.Fatalf("%s: the value %d is another one", when, i)
		}
	}
}

// refuses asks for what all functions refuse, and sees that nothing else is told and nothing changed: with what else they would refuse, too, for that is behind it in order.
func refuses(t testing.TB, when string, s *store.Store, root int, want api.Errno) {
	t.Helper()
	before := rows(s)
	if n, e := list.Count(s, root); n != 0 || e != want {
		t.Errorf("%s: Count(%d) = %d, %d, not %d", when, root, n, e, want)
	}
	for _, n := range []int{-1, 0, 1, 3, 65536, math.MinInt, math.MaxInt} {
		if p, e := list.Nth(s, root, n); p.Key != keyZ || p.Value != nil || e != want {
			t.Errorf("%s: Nth(%d, %d) = %v, %d, not %d", when, root, n, p, e, want)
		}
	}
	for _, key := range []api.Path{keyZ, keyO, keyX, keyY, keyN} {
		if n, e := list.Rank(s, root, key); n != 0 || e != want {
			t.Errorf("%s: Rank(%d, %x) = %d, %d, not %d", when, root, key, n, e, want)
		}
		for _, most := range []int{-1, 0, 1, 256, 257, math.MinInt, math.MaxInt} {
			if l, e := list.Some(s, root, key, most); len(l) > 0 || e != want {
				t.Errorf("%s: Some(%d, %x, %d) = %v, %d, not %d", when, root, key, most, l, e, want)
			}
		}
		for _, to := range []api.Path{keyZ, keyX, keyN} {
			if n, e := list.Between(s, root, key, to); n != 0 || e != want {
				t.Errorf("%s: Between(%d, %x, %x) = %d, %d, not %d", when, root, key, to, n, e, want)
			}
		}
		if all := list.From(s, root, key); all == nil || len(collect(all)) > 0 || len(collect(all)) > 0 {
			t.Errorf("%s: From(%d, %x) is nil, or goes over some", when, root, key)
		}
	}
	if all := list.All(s, root); all == nil || len(collect(all)) > 0 || len(collect(all)) > 0 {
		t.Errorf("%s: All(%d) is nil, or goes over some", when, root)
	}
	same(t, when, s, before)
}

// Iterators are never nil.
func TestIteratorsAreNeverNil(t *testing.T) {
	s, root, _ := abc(t)
	for _, h := range append([]int{0, root, 1, 2, 3, 4, 5, 6, 1999, 2000, 2001}, strange...) {
		if list.All(s, h) == nil || list.From(s, h, keyX) == nil || list.All(nil, h) == nil || list.From(nil, h, keyX) == nil {
			t.Errorf("of %d an iterator is nil", h)
		}
	}
}

// Roots that are refused: what is no node's, what became free, inner nodes below a root.
func TestRootsThatAreNone(t *testing.T) {
	s := fresh(t, 600)
	low := inner(t, s, 1, leaf(t, s, keyZ, noise(1)), leaf(t, s, keyX, noise(2)))
	root := inner(t, s, 0, low, leaf(t, s, keyY, noise(3)))
	free := leaf(t, s, keyN, nil)
	letGo(t, s, free)
	refuses(t, "an inner node of depth 1", s, low, api.ErrArg)
	refuses(t, "a leaf that became free", s, free, api.ErrMissing)
	for _, h := range append([]int{7, 8, 599, 600, 601}, strange...) {
		refuses(t, "no node's", s, h, api.ErrMissing)
	}
	hold(t, s, low)
	refuses(t, "an inner node that callers hold", s, low, api.ErrArg)
	lists(t, "the root", s, root, []api.Pair{{Key: keyZ, Value: noise(1)}, {Key: keyX, Value: noise(2)}, {Key: keyY, Value: noise(3)}})
	letGo(t, s, root)
	refuses(t, "a root that became free", s, root, api.ErrMissing)
	refuses(t, "a leaf that became free with it", s, 4, api.ErrMissing)
	refuses(t, "an inner node that is left", s, low, api.ErrArg)
	lists(t, "a leaf that is left", s, 1, []api.Pair{{Key: keyZ, Value: noise(1)}})
	letGo(t, s, low)
	for h := range 601 {
		if h > 0 {
			refuses(t, "a store that became empty", s, h, api.ErrMissing)
		}
	}
}

// An inner node of each depth: only that of depth 0 is a root.
func TestInnerNodesOfEachDepth(t *testing.T) {
	for d := 1; d < 256; d++ {
		s := fresh(t, 5)
		h := inner(t, s, d, leaf(t, s, keyZ, nil), leaf(t, s, flip(keyZ, d), nil))
		refuses(t, fmt.Sprint("depth ", d), s, h, api.ErrArg)
	}
}

// none tells stores that New did not answer.
func none(t *testing.T) map[string]*store.Store {
	t.Helper()
	used := func() *store.Store {
		s := fresh(t, 600)
		grown(t, s, 0, set(keyZ, 0), set(keyY, 0))
		return s
	}
	copied := *used()
	over := used()
	*over = *used()
	emptied := used()
	*emptied = store.Store{}
	return map[string]*store.Store{
		"nil": nil, "a plain one": {}, "a new one": new(store.Store), "a copy": &copied, "one written over": over, "one emptied": emptied,
	}
}

func TestStoresThatNewDidNotAnswer(t *testing.T) {
	for when, s := range none(t) {
		for _, h := range append([]int{0, 1, 2, 3, 4, 600, 601}, strange...) {
			refuses(t, when, s, h, api.ErrNil)
		}
	}
}

// What is asked of a copy says nothing of the store that it was made of.
func TestCopyLeavesTheStore(t *testing.T) {
	s, root, l := abc(t)
	copied := *s
	refuses(t, "a copy", &copied, root, api.ErrNil)
	lists(t, "the store itself", s, root, l)
}

// What is told of one store hangs on no other one.
func TestStoresAreByThemselves(t *testing.T) {
	one, root, l := abc(t)
	two := fresh(t, 600)
	refuses(t, "another one's root", two, root, api.ErrMissing)
	other := grown(t, two, 0, set(keyX, 5))
	lists(t, "the one", one, root, l)
	lists(t, "the other", two, other, entries([]api.Write{set(keyX, 5)}))
}

// No call takes a slot or gives one back: the slots are taken in the same order behind any of them, an iterator that was broken off among them.
func TestOrderOfSlotsStays(t *testing.T) {
	var taken [2][]int
	for i := range taken {
		s := fresh(t, 1400)
		w := []api.Write{set(keyZ, 1), set(keyY, 2), set(keyX, 3), set(keyO, 4), gone(keyO), gone(keyY)}
		root := grown(t, s, 0, w[:4]...)
		root = grown(t, s, root, w[4:]...)
		if i == 1 {
			lists(t, "as it is", s, root, entries(w))
			refuses(t, "no root", s, 1399, api.ErrMissing)
			for range list.All(s, root) {
				break
			}
			list.From(s, root, keyO)
		}
		for s.Occupied() < s.Room() {
			taken[i] = append(taken[i], leaf(t, s, keyN, nil))
		}
	}
	if !slices.Equal(taken[0], taken[1]) {
		t.Errorf("the slots are taken in another order: %v, not %v", taken[1], taken[0])
	}
}
