package extract_test

import (
	"fmt"
	"slices"
	"testing"

	"rootcellar/api"
	"rootcellar/sha"
	"rootcellar/verify"
)

// right is a claim that is accepted for a key under a root.
type right struct {
	root  api.Hash
	key   api.Path
	claim api.Claim
}

// rightOf tells the claim that a proof's end makes of a key, under the root that the proof leads up to.
func rightOf(key api.Path, l []api.Hash, end api.Node, value []byte) right {
	return right{
		root:  sha.Sum(textsOf(digits(key), l, end)[0]),
		key:   key,
		claim: api.Claim{There: end.Kind == api.Leaf && end.Key == key, Value: value, Bytes: packed(l, end)},
	}
}

// rights are claims that are accepted, with few sides and many, with each kind of end: there with no bytes, one, 1,024; absent at nothing and at another key's leaf.
func rights() map[string]right {
	m := map[string]right{}
	for _, n := range []int{0, 1, 2, 9, 255, 256} {
		key := scattered(n)
		for i, l := range [][]api.Hash{sides(n), empties(n), mixed(n)} {
			when := fmt.Sprint(n, " sides, list ", i, ", ")
			for j, value := range [][]byte{nil, {}, []byte("A"), longest} {
				m[fmt.Sprint(when, "there, value ", j)] = rightOf(key, l, leaf(key, valueOf(value)), value)
			}
			m[when+"nothing"] = rightOf(key, l, api.Node{}, nil)
			if n < 256 {
				m[when+"another leaf"] = rightOf(key, l, leaf(flip(key, n), valueOf(nil)), nil)
			}
		}
	}
	return m
}

// accepted sees that a claim is what the test calls it.
func accepted(t testing.TB, when string, r right, want bool) {
	t.Helper()
	ok := verify.Absent(r.root, r.key, r.claim.Bytes)
	if r.claim.There {
		ok = verify.Present(r.root, r.key, r.claim.Value, r.claim.Bytes)
	}
	if ok != want {
		t.Fatalf("%s: the claim %s is accepted: %t", when, said(r.claim), ok)
	}
}

// wrongs are claims of the same key that are not accepted under the root: the other thing said, another value, other bytes, bytes that are no proof's, nothing at all.
func wrongs(t testing.TB, r right) map[string]api.Claim {
	c := r.claim
	m := map[string]api.Claim{
		"the other thing":           {There: !c.There, Value: c.Value, Bytes: c.Bytes},
		"there, a value too long":   {There: true, Value: tooLong, Bytes: c.Bytes},
		"there, the value goes on":  {There: true, Value: append(slices.Clone(c.Value), 0), Bytes: c.Bytes},
		"there, another value":      {There: true, Value: []byte("B"), Bytes: c.Bytes},
		"there, of nothing":         {There: true, Value: c.Value},
		"absent, of nothing":        {},
		"there, cut off":            {There: true, Value: c.Value, Bytes: c.Bytes[:len(c.Bytes)-1]},
		"absent, cut off":           {Bytes: c.Bytes[:len(c.Bytes)-1]},
		"there, more behind":        {There: true, Value: c.Value, Bytes: append(slices.Clone(c.Bytes), 0)},
		"absent, more behind":       {Bytes: append(slices.Clone(c.Bytes), 0)},
		"there, another root's":     {There: true, Value: c.Value, Bytes: packed(sides(4), leaf(r.key, valueOf(c.Value)))},
		"absent, another root's":    {Bytes: packed(sides(4), api.Node{})},
		"absent, a leaf's, another": {Bytes: packed(sides(4), leaf(flip(r.key, 255), valueOf(nil)))},
	}
	for when, w := range m {
		accepted(t, when, right{r.root, r.key, w}, false)
	}
	return m
}

// Claims that are alike hand out nothing: the same one twice; there with the value in other memory; absent with values beside, which count for nothing, be they unlike or too long.
func TestClaimsThatAreAlike(t *testing.T) {
	for when, r := range rights() {
		accepted(t, when, r, true)
		c := r.claim
		noClash(t, when, r.root, r.key, c, c)
		other := api.Claim{There: c.There, Value: slices.Clone(c.Value), Bytes: slices.Clone(c.Bytes)}
		noClash(t, when+", in other memory", r.root, r.key, c, other)
		if c.There {
			continue
		}
		for _, v := range [][]byte{{}, {0}, []byte("A"), longest, tooLong, make([]byte, 1<<17)} {
			other.Value = v
			noClash(t, when+", a value beside", r.root, r.key, c, other)
			noClash(t, when+", values beside both", r.root, r.key, api.Claim{Value: []byte("B"), Bytes: c.Bytes}, other)
			noClash(t, when+", one value beside both", r.root, r.key, other, other)
		}
	}
}

// No bytes and none at all are one value.
func TestEmptyValues(t *testing.T) {
	r := rightOf(keyX, mixed(3), leaf(keyX, valueOf(nil)), nil)
	for _, v := range [][]byte{nil, {}, make([]byte, 0, 8), longest[:0]} {
		other := api.Claim{There: true, Value: v, Bytes: r.claim.Bytes}
		accepted(t, "no bytes", right{r.root, r.key, other}, true)
		noClash(t, "no bytes", r.root, r.key, r.claim, other)
	}
}

// Where the first claim is not accepted, or the second, or both, nothing is handed out, whatever they say.
func TestClaimsThatAreNotAccepted(t *testing.T) {
	for when, r := range rights() {
		wrong := wrongs(t, r)
		for how, c := range wrong {
			noClash(t, when+", one is not accepted: "+how, r.root, r.key, r.claim, c)
			noClash(t, when+", twice: "+how, r.root, r.key, c, c)
			if len(r.claim.Bytes) > 500 {
				continue
			}
			for also, d := range wrong {
				noClash(t, when+", both are not accepted: "+how+", "+also, r.root, r.key, c, d)
			}
		}
	}
}

// Two claims, each accepted under its own root, are not both so under either, nor under a third one; the same of keys.
func TestRootsAndKeys(t *testing.T) {
	one := rightOf(keyX, sides(3), leaf(keyX, valueOf([]byte("A"))), []byte("A"))
	for when, two := range map[string]right{
		"another value":      rightOf(keyX, sides(3), leaf(keyX, valueOf([]byte("B"))), []byte("B")),
		"absent":             rightOf(keyX, sides(3), api.Node{}, nil),
		"absent, a leaf":     rightOf(keyX, sides(3), leaf(flip(keyX, 3), valueOf([]byte("A"))), nil),
		"the value, another": rightOf(keyX, sides(2), leaf(keyX, valueOf([]byte("A"))), []byte("A")),
	} {
		for _, root := range []api.Hash{one.root, two.root, empty, {}, digest(1)} {
			noClash(t, when, root, keyX, one.claim, two.claim)
		}
		for d := range 256 {
			noClash(t, when+", another key", one.root, flip(keyX, d), one.claim, two.claim)
			noClash(t, when+", another key", two.root, flip(keyX, d), one.claim, two.claim)
			noClash(t, when+", another root", flip(one.root, d), keyX, one.claim, two.claim)
		}
	}
}

// Values at the edge: of 1,024 bytes a claim is accepted; of one more it is not, though the leaf has its digest.
func TestLengthOfValues(t *testing.T) {
	for _, n := range []int{0, 1, 9, 256} {
		fits := rightOf(keyX, mixed(n), leaf(keyX, valueOf(longest)), longest)
		long := rightOf(keyX, mixed(n), leaf(keyX, valueOf(tooLong)), tooLong)
		accepted(t, "1,024 bytes", fits, true)
		accepted(t, "1,025 bytes", long, false)
		if top, e := verify.Top(keyX, long.claim.Bytes); top != long.root || e != api.OK {
			t.Fatalf("1,025 bytes: Top = %x, %d", top, e)
		}
		for _, r := range []right{fits, long} {
			for _, value := range [][]byte{nil, longest, tooLong, longest[:1023], tooLong[1:]} {
				c := api.Claim{There: true, Value: value, Bytes: r.claim.Bytes}
				noClash(t, "long values", r.root, keyX, r.claim, c)
				noClash(t, "long values", r.root, keyX, c, c)
				noClash(t, "a long value beside one that is absent", r.root, keyX, c, api.Claim{Value: value, Bytes: r.claim.Bytes})
			}
		}
	}
}

// A leaf that is not on the key's way says nothing of the key: though the bytes lead up to the root, the claim is not accepted.
func TestLeafBesideTheWay(t *testing.T) {
	for _, n := range []int{1, 2, 9, 256} {
		key := scattered(n)
		for d := range n {
			aside := rightOf(key, mixed(n), leaf(flip(key, d), valueOf(nil)), nil)
			accepted(t, "aside", aside, false)
			there := aside.claim
			there.There = true
			noClash(t, fmt.Sprint(n, " sides, aside at ", d), aside.root, key, aside.claim, there)
			noClash(t, fmt.Sprint(n, " sides, aside at ", d), aside.root, key, aside.claim, api.Claim{Bytes: []byte{0, 0, 0}})
		}
	}
}

// Claims of no fields at all, under any root.
func TestNoClaims(t *testing.T) {
	for _, root := range []api.Hash{{}, empty, digest(1), valueOf(nil)} {
		for _, key := range []api.Path{keyZ, keyN} {
			noClash(t, "none", root, key, api.Claim{}, api.Claim{})
			noClash(t, "none but there", root, key, api.Claim{There: true}, api.Claim{})
			noClash(t, "both there", root, key, api.Claim{There: true}, api.Claim{There: true})
			noClash(t, "absent under the empty digest", root, key, api.Claim{Bytes: []byte{0, 0, 0}}, api.Claim{})
		}
	}
}
