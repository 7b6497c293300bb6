package pack_test

import (
	"fmt"
	"testing"

	"rootcellar/api"
	"rootcellar/dict"
	"rootcellar/pack"
	"rootcellar/proof"
)

// of makes a dictionary of keys, each with a value of its own.
func of(t testing.TB, keys ...api.Path) *dict.Dict {
	t.Helper()
	d, e := dict.New(30000)
	if e != api.OK {
		t.Fatal(e)
	}
	for i, k := range keys {
		put(t, d, k, fmt.Sprint(i))
	}
	return d
}

func put(t testing.TB, d *dict.Dict, key api.Path, value string) {
	t.Helper()
	if e := d.Put(key[:], []byte(value)); e != api.OK {
		t.Fatalf("Put(%x) = %d", key, e)
	}
}

// carried sees that a key's proof comes back out of its bytes, and says and holds what it did ahead of it.
func carried(t *testing.T, when string, d *dict.Dict, name string, key api.Path) []byte {
	t.Helper()
	root, _ := d.Root(name)
	p, e := proof.Prove(d, name, key[:])
	if e != api.OK {
		t.Fatalf("%s: Prove(%q, %x) = %d", when, name, key, e)
	}
	b := may(t, when, p)
	q, _ := pack.Decode(b)
	there, value := proof.Says(key, p)
	if ok, h := proof.Says(key, q); ok != there || h != value {
		t.Fatalf("%s: %x is said there: %t, and behind its bytes: %t", when, key, there, ok)
	}
	if ok, e := proof.Holds(root, key, q); !ok || e != api.OK {
		t.Fatalf("%s: the proof of %x does not hold behind its bytes: %d", when, key, e)
	}
	if want := 2 + (len(p.Sides)+7)/8 + 32*proof.Short(p); len(b) != want+1 && len(b) != want+65 {
		t.Fatalf("%s: the proof of %x has %d bytes", when, key, len(b))
	}
	return b
}

// Proofs of no entry, of one, and of two that part at each bit: of both, and of keys that part from them at other bits.
func TestProofsOfSmallMaps(t *testing.T) {
	none, one := of(t), of(t, keyX)
	for d := range 256 {
		a := scattered(d)
		b := api.Path(flip(a, d))
		two := of(t, a, b)
		carried(t, "of none", none, "", a)
		carried(t, "of one", one, "", flip(keyX, d))
		carried(t, "of two", two, "", a)
		carried(t, "of two", two, "", b)
		for _, at := range []int{0, d / 2, d - 1, d + 1, 255} {
			if at >= 0 && at < 256 {
				carried(t, "of two, absent", two, "", flip(a, at))
			}
		}
	}
	carried(t, "of one", one, "", keyX)
}

// Example 5 of the whole, out of dictionaries.
func TestExampleFiveProved(t *testing.T) {
	for _, c := range []struct {
		keys []api.Path
		size int
	}{{[]api.Path{keyZ, keyY}, 100}, {[]api.Path{keyZ, keyO}, 131}} {
		d := of(t)
		for _, k := range c.keys {
			put(t, d, k, "")
		}
		for _, k := range c.keys {
			if b := carried(t, "example 5", d, "", k); len(b) != c.size {
				t.Errorf("the proof of %x has %d bytes, not %d", k, len(b), c.size)
			}
		}
	}
}

// A ladder: 257 keys, each of which parts from the way of noughts one bit deeper, so that no side of the deepest is empty.
func TestGreatestProved(t *testing.T) {
	l := []api.Path{keyZ}
	for d := range 256 {
		l = append(l, flip(keyZ, d))
	}
	d := of(t, l...)
	for _, k := range []api.Path{keyZ, keyO} {
		if b := carried(t, "the ladder", d, "", k); len(b) != 8291 {
			t.Errorf("the proof of %x has %d bytes", k, len(b))
		}
	}
	for _, k := range l {
		carried(t, "the ladder", d, "", k)
		carried(t, "the ladder, absent", d, "", flip(flip(k, 3), 254))
	}
}

// Many keys, and versions beside: unlike proofs have unlike bytes.
func TestProofsOfMany(t *testing.T) {
	var l []api.Path
	for i := range 300 {
		l = append(l, scattered(i))
	}
	l = append(l, keyZ, keyO, keyX, keyY, keyN, flip(keyN, 255), flip(keyY, 128))
	d := of(t, l...)
	if e := d.Snapshot("one"); e != api.OK {
		t.Fatal(e)
	}
	for i, k := range l {
		if i%3 == 0 {
			d.Delete(k[:])
		} else {
			put(t, d, k, fmt.Sprint("another ", i))
		}
	}
	seen := map[string]api.Proof{}
	for _, name := range []string{"", "one"} {
		for i, k := range l {
			for _, key := range []api.Path{k, flip(k, 255), flip(k, i%256), scattered(1000 + i)} {
				b := string(carried(t, "many", d, name, key))
				p, _ := proof.Prove(d, name, key[:])
				if q, twice := seen[b]; twice && !likeProofs(p, q) {
					t.Fatalf("two unlike proofs have the bytes %s", brief([]byte(b)))
				}
				seen[b] = p
			}
		}
	}
}
