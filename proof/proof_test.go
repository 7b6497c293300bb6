package proof_test

import (
	"fmt"
	"slices"
	"testing"

	"rootcellar/api"
	"rootcellar/dict"
	"rootcellar/path"
	"rootcellar/proof"
	"rootcellar/tag"
)

// The examples of the chapter.
func TestExamples(t *testing.T) {
	d := chapter(t)
	v := tag.Value(nil)
	unchanged(t, "the examples", d, func() {
		p := prove(t, d, "", keyY)
		if !slices.Equal(p.Sides, []api.Hash{tag.Leaf(keyZ, v)}) || p.End != (api.Node{Kind: api.Leaf, Key: keyY, Value: v}) {
			t.Errorf("Prove(Y) = %x", p)
		}
		says(t, "Y", keyY, p, true, v)
		absent(t, "Z", keyZ, p)
		holds(t, "the root", rootOf(t, d, ""), keyY, p, true)
		holds(t, "the empty digest", tag.Empty(), keyY, p, false)
		short(t, "one empty", api.Proof{Sides: []api.Hash{tag.Empty(), tag.Leaf(keyZ, v)}}, 1)
		unproved(t, "no version", d, "x", keyY[:], api.ErrMissing)
		unproved(t, "three bytes", d, "", []byte{1, 2, 3}, api.ErrKey)
		unproved(t, "nil", nil, "", keyY[:], api.ErrNil)
	})
}

// Example 4 of the whole: both proofs among Z and Y.
func TestExampleFour(t *testing.T) {
	d := chapter(t)
	v, root := tag.Value(nil), rootOf(t, d, "")
	proves(t, d, "", keyX, api.Proof{Sides: []api.Hash{tag.Leaf(keyY, v)}, End: leafOf(keyZ, "")})
	p := prove(t, d, "", keyX)
	absent(t, "X", keyX, p)
	holds(t, "X", root, keyX, p, true)
	holds(t, "Y by the proof of X", root, keyY, p, false)
	absent(t, "Y by the proof of X", keyY, p)
	says(t, "Z by the proof of X", keyZ, p, true, v) // the way of Z is that of X
	holds(t, "Z by the proof of X", root, keyZ, p, true)
}

// Of Z and O, the deepest tree: 256 sides, of which one is not empty.
func TestDeepestTree(t *testing.T) {
	d := of(t)
	put(t, d, keyZ, "z")
	put(t, d, keyO, "o")
	root := rootOf(t, d, "")
	z, o := leafOf(keyZ, "z"), leafOf(keyO, "o")
	proves(t, d, "", keyZ, api.Proof{Sides: append(empties(255), tag.Leaf(keyO, o.Value)), End: z})
	proves(t, d, "", keyO, api.Proof{Sides: append(empties(255), tag.Leaf(keyZ, z.Value)), End: o})
	for _, end := range []api.Node{z, o} {
		p := prove(t, d, "", end.Key)
		says(t, "there", end.Key, p, true, end.Value)
		holds(t, "there", root, end.Key, p, true)
		short(t, "there", p, 1)
	}
	for depth := range 255 { // a key that parts from both there finds nothing right below
		key := flip(keyZ, depth)
		p := prove(t, d, "", key)
		if len(p.Sides) != depth+1 || p.End != (api.Node{}) || !slices.Equal(p.Sides[:depth], empties(depth)) {
			t.Fatalf("a key that parts at %d has %d sides and the end %v", depth, len(p.Sides), p.End)
		}
		absent(t, "parted", key, p)
		holds(t, "parted", root, key, p, true)
		short(t, "parted", p, 1)
	}
}

// Maps of no entry and of one, for keys that part from it at each bit.
func TestSmallMaps(t *testing.T) {
	none, one := of(t), of(t)
	put(t, one, keyX, "x")
	x := leafOf(keyX, "x")
	for _, key := range []api.Path{keyZ, keyO, keyX, keyY, keyN, scattered(1)} {
		proves(t, none, "", key, api.Proof{})
		absent(t, "of none", key, prove(t, none, "", key))
		holds(t, "of none", tag.Empty(), key, prove(t, none, "", key), true)
		holds(t, "of none under zero", api.Hash{}, key, prove(t, none, "", key), false)
	}
	proves(t, one, "", keyX, api.Proof{End: x})
	says(t, "of one", keyX, prove(t, one, "", keyX), true, x.Value)
	holds(t, "of one", tag.Leaf(keyX, x.Value), keyX, prove(t, one, "", keyX), true)
	for depth := range 256 {
		key := flip(keyX, depth)
		proves(t, one, "", key, api.Proof{End: x})
		absent(t, "of one, another key", key, prove(t, one, "", key))
		holds(t, "of one, another key", tag.Leaf(keyX, x.Value), key, prove(t, one, "", key), true)
	}
}

// Two keys that part at each bit there is: both there, keys beside them absent, at an empty place and at a leaf.
func TestTwoKeysThatPartAtEachBit(t *testing.T) {
	for depth := range 256 {
		a := scattered(depth)
		b := flip(a, depth)
		l := []api.Pair{{Key: a, Value: []byte("a")}, {Key: b, Value: []byte("b")}}
		d := of(t)
		put(t, d, a, "a")
		put(t, d, b, "b")
		root, when := rootOf(t, d, ""), fmt.Sprint("parted at ", depth)
		la, lb := leafOf(a, "a"), leafOf(b, "b")
		proves(t, d, "", a, api.Proof{Sides: append(empties(depth), tag.Leaf(b, lb.Value)), End: la})
		proves(t, d, "", b, api.Proof{Sides: append(empties(depth), tag.Leaf(a, la.Value)), End: lb})
		holds(t, when, root, a, prove(t, d, "", a), true)
		holds(t, when, root, b, prove(t, d, "", b), true)
		holds(t, when, root, a, prove(t, d, "", b), false)
		for _, at := range []int{0, depth / 2, depth - 1, depth + 1, (depth + 256) / 2, 255} {
			if at < 0 || at == depth || at > 255 {
				continue
			}
			key := flip(b, at)
			p := prove(t, d, "", key)
			if want := wayOf(l, key); !likeProofs(p, want) {
				t.Fatalf("%s: the proof of a key that parts from b at %d is %x, not %x", when, at, p, want)
			}
			if at < depth && (len(p.Sides) != at+1 || p.End != (api.Node{})) || at > depth && (len(p.Sides) != depth+1 || p.End != lb) {
				t.Fatalf("%s: the way of a key that parts from b at %d has %d sides and ends with %v", when, at, len(p.Sides), p.End)
			}
			absent(t, when, key, p)
			holds(t, when, root, key, p, true)
		}
	}
}

// Keys of other numbers of bytes than 32 are refused, under every name. Says and Holds take keys of 32 bytes alone: of others path.Of tells ErrKey, and a key of noughts, which is one like any other.
func TestKeys(t *testing.T) {
	d := of(t, keyZ, keyX, keyY)
	snapshot(t, d, "one")
	root := rootOf(t, d, "")
	for _, n := range []int{0, 1, 3, 31, 33, 64, 288, 65568} {
		key := make([]byte, n)
		unchanged(t, fmt.Sprint(n), d, func() {
			for _, name := range []string{"", "one"} {
				unproved(t, fmt.Sprint(n), d, name, key, api.ErrKey)
			}
		})
		k, e := path.Of(key)
		if e != api.ErrKey || k != keyZ {
			t.Fatalf("Of %d bytes = %x, %d", n, k, e)
		}
		says(t, "noughts", k, prove(t, d, "", keyZ), true, leafOf(keyZ, valueAt(0)).Value)
		holds(t, "noughts", root, k, prove(t, d, "", keyZ), true)
		holds(t, "noughts", root, k, prove(t, d, "", keyY), false)
	}
	unproved(t, "nil", d, "", nil, api.ErrKey)
	for _, k := range []api.Path{keyZ, keyO, keyX, keyY, keyN} {
		if _, e := proof.Prove(d, "one", k[:]); e != api.OK {
			t.Errorf("Prove of a key of 32 bytes = %d", e)
		}
	}
}

// strangers tells dictionaries that New did not answer.
func strangers(t testing.TB) map[string]*dict.Dict {
	t.Helper()
	copied := *chapter(t)
	over := chapter(t)
	*over = *chapter(t)
	emptied := chapter(t)
	*emptied = dict.Dict{}
	return map[string]*dict.Dict{
		"nil": nil, "a plain one": {}, "a new one": new(dict.Dict), "a copy": &copied, "one written over": over, "one emptied": emptied,
	}
}

// Of each set of things that may be wrong the first one that the chapter names is told.
func TestOrderOfErrors(t *testing.T) {
	d := chapter(t)
	snapshot(t, d, "one")
	short, long := keyY[:31], append(keyY[:], 0)
	for when, stranger := range strangers(t) {
		for _, name := range append([]string{"", "one"}, strangeNames...) {
			for _, key := range [][]byte{keyY[:], nil, short, long} {
				unproved(t, when, stranger, name, key, api.ErrNil)
			}
		}
	}
	unchanged(t, "refused", d, func() {
		for _, name := range strangeNames {
			for _, key := range [][]byte{nil, short, long} {
				unproved(t, "two errors", d, name, key, api.ErrKey)
			}
			unproved(t, "no version", d, name, keyY[:], api.ErrMissing)
			unproved(t, "no version", d, name, keyX[:], api.ErrMissing)
		}
	})
}

// Each name tells of its own map, whatever is written, taken back and let go behind it.
func TestNames(t *testing.T) {
	d := of(t)
	var want []api.Proof // Y's, of the versions in their order
	for i, name := range sixteen {
		snapshot(t, d, name)
		want = append(want, prove(t, d, "", keyY))
		put(t, d, keyY, valueAt(i+1))
		put(t, d, scattered(i), "beside")
	}
	remove(t, d, keyY)
	current := prove(t, d, "", keyY)
	absent(t, "deleted", keyY, current)
	for i, name := range sixteen {
		proves(t, d, name, keyY, want[i])
		holds(t, name, rootOf(t, d, name), keyY, want[i], true)
		holds(t, name+" under the current root", rootOf(t, d, ""), keyY, want[i], false)
		holds(t, name+" by the current proof", rootOf(t, d, name), keyY, current, false)
		there, value := i > 0, api.Hash{}
		if there {
			value = tag.Value([]byte(valueAt(i)))
		}
		says(t, name, keyY, want[i], there, value)
	}
	d.Rollback("c")
	proves(t, d, "", keyY, want[2])
	proves(t, d, "d", keyY, want[3])
	d.Prune("c")
	unproved(t, "pruned", d, "c", keyY[:], api.ErrMissing)
	proves(t, d, "", keyY, want[2])
	put(t, d, keyY, "another")
	snapshot(t, d, "c")
	says(t, "a name that is there again", keyY, prove(t, d, "c", keyY), true, tag.Value([]byte("another")))
}

// A version of no entry is one, and the current map may be of none beside others.
func TestNamesOfEmptyMaps(t *testing.T) {
	d := of(t)
	snapshot(t, d, "none")
	put(t, d, keyZ, "")
	snapshot(t, d, "one")
	remove(t, d, keyZ)
	for _, key := range []api.Path{keyZ, keyY} {
		proves(t, d, "none", key, api.Proof{})
		proves(t, d, "", key, api.Proof{})
		proves(t, d, "one", key, api.Proof{End: leafOf(keyZ, "")})
		holds(t, "none", rootOf(t, d, "none"), key, prove(t, d, "none", key), true)
	}
	absent(t, "of nothing the end has the key of noughts, but is no leaf", keyZ, prove(t, d, "none", keyZ))
}

// What is asked of one dictionary hangs on no other one.
func TestDictionariesAreByThemselves(t *testing.T) {
	one, two := chapter(t), of(t)
	snapshot(t, one, "one")
	unproved(t, "the other one's version", two, "one", keyY[:], api.ErrMissing)
	proves(t, two, "", keyY, api.Proof{})
	put(t, two, keyY, "two")
	proves(t, two, "", keyY, api.Proof{End: leafOf(keyY, "two")})
	proves(t, one, "", keyY, api.Proof{Sides: []api.Hash{tag.Leaf(keyZ, tag.Value(nil))}, End: leafOf(keyY, "")})
}

// A dictionary that is too full to be written to proves as any other one.
func TestFullDictionary(t *testing.T) {
	d := fresh(t, 259)
	put(t, d, keyZ, "")
	put(t, d, keyO, "")
	if e := d.Put(keyY[:], nil); e != api.ErrStoreFull {
		t.Fatalf("Put = %d", e)
	}
	unchanged(t, "full", d, func() {
		holds(t, "full", rootOf(t, d, ""), keyO, prove(t, d, "", keyO), true)
		holds(t, "full", rootOf(t, d, ""), keyY, prove(t, d, "", keyY), true)
	})
}

// A dictionary whose root a caller dropped, which was not the caller's, answers calmly: with a proof, or with an error and nothing else.
func TestStoreThatIsNotOfItself(t *testing.T) {
	d := of(t, keyZ, keyO, keyX, keyY)
	snapshot(t, d, "one")
	put(t, d, keyY, "another")
	for _, name := range []string{"", "one"} {
		root, _ := d.Handle(name)
		d.Store().Drop(root)
		for i := range 300 { // others take its slot
			for _, key := range []api.Path{keyZ, keyX, keyN} {
				if p, e := proof.Prove(d, name, key[:]); e != api.OK && (len(p.Sides) != 0 || p.End != (api.Node{})) {
					t.Fatalf("Prove(%q, %x) = %x, %d", name, key, p, e)
				}
			}
			d.Store().Leaf(near(i), nil)
		}
	}
}
