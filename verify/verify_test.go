package verify_test

import (
	"fmt"
	"slices"
	"testing"

	"rootcellar/api"
	"rootcellar/node"
	"rootcellar/pack"
	"rootcellar/sha"
	"rootcellar/verify"
)

// wayOf tells the bytes of a key's way among entries.
func wayOf(t testing.TB, l []api.Pair, key api.Path) []byte {
	t.Helper()
	p, e := node.Way(l, key)
	if e != api.OK {
		t.Fatalf("Way of %d entries = %d", len(l), e)
	}
	b, e := pack.Encode(p)
	if e != api.OK {
		t.Fatalf("Encode = %d", e)
	}
	return b
}

// rootOf tells the root of entries.
func rootOf(t testing.TB, l []api.Pair) api.Hash {
	t.Helper()
	h, e := node.Root(l)
	if e != api.OK {
		t.Fatalf("Root of %d entries = %d", len(l), e)
	}
	return h
}

// The examples of the chapter.
func TestExamples(t *testing.T) {
	v := valueOf(nil)
	l := []api.Pair{{Key: keyY}, {Key: keyZ}}
	r, y := rootOf(t, l), wayOf(t, l, keyY)
	if r != innerOf(leafOf(keyZ, v), leafOf(keyY, v)) {
		t.Fatalf("the root is %x", r)
	}
	if said, e := verify.Read(empty, keyZ, []byte{0, 0, 0}); said.There || said.Value != (api.Hash{}) || e != api.OK {
		t.Errorf("Read of no entry = %v, %d", said, e)
	}
	if said, e := verify.Read(r, keyY, y); !said.There || said.Value != v || e != api.OK {
		t.Errorf("Read of Y = %v, %d", said, e)
	}
	if !verify.Present(r, keyY, nil, y) || !verify.Present(r, keyY, []byte{}, y) {
		t.Error("Present of Y, v is false")
	}
	for x := range 256 {
		if verify.Present(r, keyY, []byte{byte(x)}, y) {
			t.Errorf("Present of Y with the byte %d is true", x)
		}
	}
	if verify.Absent(r, keyY, y) {
		t.Error("Absent of Y is true")
	}
	for when, c := range map[string]struct {
		root api.Hash
		key  api.Path
		b    []byte
		want api.Errno
	}{
		"Y's way under E":   {empty, keyY, y, api.ErrFalse},
		"Y's way, asked Z":  {r, keyZ, y, api.ErrFalse},
		"nothing, asked Y":  {r, keyY, nil, api.ErrBytes},
		"no bytes, asked Y": {r, keyY, []byte{}, api.ErrBytes},
	} {
		if said, e := verify.Read(c.root, c.key, c.b); said != (api.Said{}) || e != c.want {
			t.Errorf("%s: Read = %v, %d, not %d", when, said, e, c.want)
		}
	}
	if h, e := verify.Top(keyY, y); h != r || e != api.OK {
		t.Errorf("Top of Y = %x, %d", h, e)
	}
}

// The examples of the whole: 3 to 5, the proofs of Y, X and O.
func TestExamplesOfTheWhole(t *testing.T) {
	v := valueOf(nil)
	z, y, o := leafOf(keyZ, v), leafOf(keyY, v), leafOf(keyO, v)
	root := innerOf(z, y)
	there(t, "Y among Z and Y", root, keyY, nil, slices.Concat([]byte{0, 1, 128}, z[:], []byte{1}, keyY[:], v[:]))
	absent(t, "X among Z and Y", root, keyX, slices.Concat([]byte{0, 1, 128}, y[:], []byte{1}, keyZ[:], v[:]))
	deep := innerOf(z, o)
	for range 255 {
		deep = innerOf(deep, empty)
	}
	ofO := slices.Concat([]byte{1, 0}, make([]byte, 31), []byte{1}, z[:], []byte{1}, keyO[:], v[:])
	there(t, "O among Z and O", deep, keyO, nil, ofO)
	untrue(t, "O's way, asked Z", deep, keyZ, ofO)
	three := innerOf(innerOf(z, leafOf(keyX, v)), y)
	there(t, "X among Z, X and Y", three, keyX, nil, slices.Concat([]byte{0, 2, 192}, y[:], z[:], []byte{1}, keyX[:], v[:]))
}

// Digests at the top that another program told, each number of sides with each end.
func TestTopsToldElsewhere(t *testing.T) {
	key := api.Path(unhex("b56b1bdd9927d7991d43a305a14f5fb1059b2b4d4937a7e9ed13b315917f6f61"))
	ends := []api.Node{{}, leaf(key, valueOf([]byte("A"))), leaf(flip(key, 255), valueOf(nil))}
	for _, c := range []struct {
		n    int
		want [3]string
	}{
		{0, [3]string{
			"6e340b9cffb37a989ca544e6bb780a2c78901d3fb33738768511a30617afa01d",
			"53d45c078a6847e463a63293dd7e7627490d1e9d969bb7cb396454f80020b39a",
			"bf6034ab5a04855b2809eb19e9ef9479c9224a6a8e2acd6229b4e03f3bb464d0"}},
		{1, [3]string{
			"08275fa3607b9fbefda10a3972b9f05f7c1bc392d1d68f5fd9d58ac9ff384cba",
			"3bdca9e1523096fab8b0a40b5c4c2366c266af65e88eaaef49c82c43e12ba90e",
			"aa29edeb278cd72f3c67259d9a3c5090795898ab0833384f7d57dfa9fa99dde4"}},
		{13, [3]string{
			"4458600bef6b89028766c52521b29717f45d2c4c61ecde5a716ebd04a1ddf9cc",
			"0ba5009366f9fcdaee9c59b5b9a40e12ec2d087979f3446ed2cbcc26f8b0fc83",
			"7a503898623743ab050f11e75e1f15d0430c0fec0b7d0c860f8dec1c91f701b7"}},
		{255, [3]string{
			"a4042929403b0c6046e2d1eec9a6d7c7070c2144062622b41bfd8400341a1d19",
			"8e34be0aac103943b39ba3148fc804dc05889c0af7e7dda1ffb1c95227e8c75d",
			"71ac625741eea964d69561267a64bcd6c91c90b0068320a1553a876a6241e554"}},
		{256, [3]string{
			"6cc79a45493459a671693d737f316e25767b1a1eb18021f7b6f066c6196065b0",
			"1e44c25b5bb012344de8da9477f2748dc59abb3948efa4ece89695f9d518da2d",
			"bebd5b2618b89e538b0a39fbad7cf364b3ca2b9984f0aea1c4834498b903f25a"}},
	} {
		for i, end := range ends {
			when, root := fmt.Sprint(c.n, " sides, the end ", i), api.Hash(unhex(c.want[i]))
			b := packed(toldSides(c.n), end)
			tops(t, when, key, b, root, api.OK)
			switch {
			case i == 1:
				there(t, when, root, key, []byte("A"), b)
			case i == 2 && c.n == 256: // the other key has all bits but the last
				untrue(t, when, root, key, b)
			default:
				absent(t, when, root, key, b)
			}
		}
	}
}

// toldSides are those of the other program.
func toldSides(n int) []api.Hash {
	l := empties(n)
	for i := range l {
		if i%3 != 0 {
			l[i] = sha.Sum([]byte{byte(i)})
		}
	}
	return l
}

// Values at the edge: one of 1,024 bytes is there; of one byte more the digest is told, but no such value is present.
func TestLengthOfValues(t *testing.T) {
	for _, n := range []int{0, 1, 2, 31, 32, 33, 64, 1000, 1023, 1024} {
		for _, l := range [][]api.Hash{nil, sides(1), mixed(9), empties(256)} {
			value := some(n)
			b := packed(l, leaf(keyX, valueOf(value)))
			root := up(keyX, api.Proof{Sides: l, End: leaf(keyX, valueOf(value))})
			there(t, fmt.Sprint("a value of ", n, " bytes"), root, keyX, value, b)
		}
	}
	for _, n := range []int{1025, 1026, 2048, 65536, 1 << 20} {
		value := some(n)
		b := packed(nil, leaf(keyX, valueOf(value)))
		root := leafOf(keyX, valueOf(value))
		there(t, fmt.Sprint("a value of ", n, " bytes"), root, keyX, value, b)
		if verify.Present(root, keyX, value, b) || verify.Present(root, keyX, value[:1024], b) {
			t.Errorf("a value of %d bytes is present", n)
		}
	}
}

// A value is held by its digest: neither a part of one, nor one with more behind it, nor the digest itself, nor a value with a bit turned is present.
func TestWrongValues(t *testing.T) {
	value := some(40)
	v := valueOf(value)
	l := []api.Pair{{Key: keyZ, Value: []byte("other")}, {Key: keyY, Value: value}}
	root, b := rootOf(t, l), wayOf(t, l, keyY)
	there(t, "Y", root, keyY, value, b)
	wrong := map[string][]byte{"no bytes": nil, "the digest": v[:], "its text": append([]byte{3}, value...), "Z's": []byte("other"), "the key": keyY[:], "the root": root[:]}
	for i := range value {
		wrong[fmt.Sprint("up to ", i)] = value[:i]
		wrong[fmt.Sprint("from ", i+1, " on")] = value[i+1:]
		turned := slices.Clone(value)
		turned[i] ^= 1 << (i % 8)
		wrong[fmt.Sprint("a bit of ", i, " turned")] = turned
	}
	for when, w := range wrong {
		if verify.Present(root, keyY, w, b) {
			t.Errorf("a wrong value is present: %s", when)
		}
	}
}

// Of an absent key no value is present: not that of the leaf which its way ends with, not that whose digest is nought.
func TestValueOfAnAbsentKey(t *testing.T) {
	for _, l := range [][]api.Pair{nil, {{Key: keyZ, Value: []byte("A")}}, {{Key: keyZ, Value: []byte("A")}, {Key: keyY, Value: []byte("B")}}, {{Key: keyZ}, {Key: keyO}}} {
		root := rootOf(t, l)
		for _, key := range []api.Path{keyX, keyN, scattered(1), flip(keyY, 255), flip(keyO, 254)} {
			b := wayOf(t, l, key)
			absent(t, "absent", root, key, b)
			for _, value := range [][]byte{nil, {}, []byte("A"), []byte("B"), make([]byte, 32), empty[:], longest, tooLong} {
				if verify.Present(root, key, value, b) {
					t.Errorf("%x is present with %s, among %d entries", key, brief(value), len(l))
				}
			}
		}
	}
}

// What is answered hangs on the arguments alone: asked in any order, again and again, by many at once.
func TestAskedByMany(t *testing.T) {
	l := []api.Pair{{Key: keyZ}, {Key: keyY}, {Key: keyO, Value: longest}}
	root, b, c := rootOf(t, l), wayOf(t, l, keyO), wayOf(t, l, keyX)
	done := make(chan string)
	for range 8 {
		go func() {
			for range 20 {
				one, e := verify.Read(root, keyO, b)
				two, f := verify.Read(root, keyX, c)
				_, g := verify.Read(root, keyX, b)
				if e != api.OK || f != api.OK || g != api.ErrFalse || two.There || one != (api.Said{There: true, Value: valueOf(longest)}) {
					done <- fmt.Sprint(one, e, two, f, g)
					return
				}
			}
			done <- ""
		}()
	}
	for range 8 {
		if s := <-done; s != "" {
			t.Error(s)
		}
	}
}
