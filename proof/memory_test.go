package proof_test

import (
	"bytes"
	"slices"
	"testing"

	"rootcellar/api"
	"rootcellar/dict"
	"rootcellar/proof"
	"rootcellar/tag"
)

// filled makes a dictionary with entries, and a version beside the current map.
func filled(t testing.TB) *dict.Dict {
	t.Helper()
	d := of(t, keyZ, keyO, keyX, scattered(1), scattered(2), scattered(3))
	snapshot(t, d, "one")
	put(t, d, keyZ, "another")
	put(t, d, keyY, "")
	return d
}

// scribble writes over sides, their spare room, too.
func scribble(l []api.Hash) {
	l = l[:cap(l)]
	for i := range l {
		l[i] = digest(1000 + i)
	}
}

// What is answered may be written over, its spare room, too: no other answer and nothing in the dictionary is changed by it.
func TestAnswersAreNewMemory(t *testing.T) {
	d := filled(t)
	unchanged(t, "written over", d, func() {
		for _, name := range []string{"", "one"} {
			for _, key := range []api.Path{keyZ, keyO, keyX, keyY, keyN, scattered(1), flip(scattered(2), 30)} {
				p, again := prove(t, d, name, key), prove(t, d, name, key)
				want := api.Proof{Sides: slices.Clone(p.Sides), End: p.End}
				scribble(p.Sides)
				p.End = leaf(keyN, digest(1))
				if !likeProofs(again, want) {
					t.Fatalf("two proofs of %q, %x share memory", name, key)
				}
				proves(t, d, name, key, want)
				holds(t, "behind writing over", rootOf(t, d, name), key, again, true)
			}
		}
	})
}

// What was answered stays as it was, whatever is done later, and it holds under the root of then.
func TestAnswersStay(t *testing.T) {
	d := filled(t)
	root, old := rootOf(t, d, ""), rootOf(t, d, "one")
	p, q := prove(t, d, "", keyO), prove(t, d, "one", keyX)
	want, wantOld := slices.Clone(p.Sides), slices.Clone(q.Sides)
	if e := d.Prune("one"); e != api.OK {
		t.Fatal(e)
	}
	for i, key := range []api.Path{keyZ, keyO, keyX, keyY, scattered(1), scattered(2), scattered(3)} {
		remove(t, d, key)
		put(t, d, near(i+9), "others in their slots")
	}
	if !slices.Equal(p.Sides, want) || !slices.Equal(q.Sides, wantOld) {
		t.Error("proofs of before are others now")
	}
	holds(t, "of before", root, keyO, p, true)
	holds(t, "of before, the version's", old, keyX, q, true)
	holds(t, "under the root of now", rootOf(t, d, ""), keyO, p, false)
}

// The key that was handed in is neither changed nor kept, nor is its spare room read.
func TestKeysAreNotKept(t *testing.T) {
	d := filled(t)
	behind := []byte("spare room, which nobody reads")
	key := append(bytes.Clone(keyO[:]), behind...)
	p, e := proof.Prove(d, "one", key[:32])
	want := prove(t, d, "one", keyO)
	if e != api.OK || !likeProofs(p, want) || !bytes.Equal(key[:32], keyO[:]) || !bytes.Equal(key[32:], behind) {
		t.Fatalf("Prove = %x, %d; the key is %x", p, e, key)
	}
	for i := range key {
		key[i] ^= 0xa5
	}
	if !likeProofs(p, want) {
		t.Error("the proof hangs on the key that was handed in")
	}
	proves(t, d, "one", keyO, want)
	unproved(t, "31 bytes with room for more", d, "one", key[:31], api.ErrKey)
}

// A proof that was handed in is neither changed nor kept, nor is its spare room read.
func TestProofsAreNotKept(t *testing.T) {
	key := scattered(7)
	for _, n := range []int{0, 1, 9, 256, 257} {
		l := append(sides(n), tag.Empty(), digest(2000), digest(2001))
		was := slices.Clone(l)
		p := api.Proof{Sides: l[:n], End: leaf(key, digest(5))}
		root := up(key, p)
		ask := func() (bool, api.Hash, bool, api.Errno, int) {
			there, value := proof.Says(key, p)
			ok, e := proof.Holds(root, key, p)
			return there, value, ok, e, proof.Short(p)
		}
		there, value, ok, e, short := ask()
		if !there || value != digest(5) || ok != (n <= 256) || (e == api.OK) != (n <= 256) || short != n {
			t.Fatalf("of %d sides: %t, %x, %t, %d, %d", n, there, value, ok, e, short)
		}
		if !slices.Equal(l, was) || p.End != leaf(key, digest(5)) || len(p.Sides) != n {
			t.Fatalf("a proof of %d sides that was handed in is changed", n)
		}
		scribble(l[n:])
		if a, b, c, d, f := ask(); a != there || b != value || c != ok || d != e || f != short {
			t.Fatalf("of %d sides: an answer hangs on the spare room behind them", n)
		}
		if n > 0 && n <= 256 {
			scribble(p.Sides)
			if ok, e := proof.Holds(root, key, p); ok || e != api.OK {
				t.Fatalf("of %d other sides: Holds = %t, %d", n, ok, e)
			}
		}
	}
}

// A name that is a piece of a longer text, and one memory for name and key, are as good as any.
func TestArgumentsThatShareMemory(t *testing.T) {
	d := filled(t)
	text := "one two"
	key := []byte("abcdefghijklmnopqrstuvwxyz123456")
	if e := d.Put(key, key); e != api.OK {
		t.Fatal(e)
	}
	proves(t, d, text[:3], keyX, prove(t, d, "one", keyX))
	p, e := proof.Prove(d, "", key)
	if e != api.OK {
		t.Fatal(e)
	}
	says(t, "a key that is its own value", api.Path(key), p, true, tag.Value(key))
}
