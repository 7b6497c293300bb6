package extract_test

import (
	"bytes"
	"fmt"
	"slices"
	"testing"

	"rootcellar/api"
	"rootcellar/extract"
	"rootcellar/node"
	"rootcellar/pack"
	"rootcellar/sha"
	"rootcellar/verify"
)

// wayOf tells the bytes of a key's way among entries.
func wayOf(t testing.TB, l []api.Pair, key api.Path) []byte {
	t.Helper()
	p, e := node.Way(l, key)
	if e != api.OK {
		t.Fatalf("Way of %d entries = %d", len(l), e)
	}
	b, e := pack.Encode(p)
	if e != api.OK {
		t.Fatalf("Encode = %d", e)
	}
	return b
}

// rootOf tells the root of entries.
func rootOf(t testing.TB, l []api.Pair) api.Hash {
	t.Helper()
	h, e := node.Root(l)
	if e != api.OK {
		t.Fatalf("Root of %d entries = %d", len(l), e)
	}
	return h
}

// The examples of the chapter.
func TestExamples(t *testing.T) {
	v := valueOf(nil)
	l := []api.Pair{{Key: keyY}, {Key: keyZ}}
	root, b, none := rootOf(t, l), wayOf(t, l, keyY), []byte{0, 0, 0}
	top, end := innerText(leafOf(keyZ, v), leafOf(keyY, v)), leafText(keyY, v)
	if l, e := extract.Texts(keyY, b); !same(l, [][]byte{top, end}) || e != api.OK {
		t.Errorf("Texts of Y = %x, %d", l, e)
	}
	if l, e := extract.Texts(keyY, none); !same(l, [][]byte{{0}}) || e != api.OK {
		t.Errorf("Texts of no side = %x, %d", l, e)
	}
	for _, b := range [][]byte{nil, {}} {
		if l, e := extract.Texts(keyY, b); l != nil || e != api.ErrBytes {
			t.Errorf("Texts of nothing = %x, %d", l, e)
		}
	}
	if c, d, e := extract.Part(keyY, b, b); c.One != nil || c.Two != nil || d != -1 || e != api.OK {
		t.Errorf("Part of Y's way and itself = %x, %x at %d, %d", c.One, c.Two, d, e)
	}
	if c, d, e := extract.Part(keyY, b, none); !bytes.Equal(c.One, top) || !bytes.Equal(c.Two, []byte{0}) || d != 0 || e != api.OK {
		t.Errorf("Part of Y's way and none = %x, %x at %d, %d", c.One, c.Two, d, e)
	}
	there := api.Claim{There: true, Bytes: b}
	if c, ok := extract.Clash(root, keyY, there, there); c.One != nil || c.Two != nil || ok {
		t.Errorf("Clash of a claim and itself = %x, %x, %t", c.One, c.Two, ok)
	}
	if c, ok := extract.Clash(root, keyY, there, api.Claim{Bytes: none}); c.One != nil || c.Two != nil || ok {
		t.Errorf("Clash of a claim and one that is not accepted = %x, %x, %t", c.One, c.Two, ok)
	}
}

// The examples of the whole: 3 to 5, the proofs of Y, X and O; and 10, which no claims do that are accepted: of one that is not, the proofs part all the same.
func TestExamplesOfTheWhole(t *testing.T) {
	v := valueOf(nil)
	z, y, o := leafOf(keyZ, v), leafOf(keyY, v), leafOf(keyO, v)
	ofY := slices.Concat([]byte{0, 1, 128}, z[:], []byte{1}, keyY[:], v[:])
	ofX := slices.Concat([]byte{0, 1, 128}, y[:], []byte{1}, keyZ[:], v[:])
	texts(t, "Y among Z and Y", keyY, ofY, [][]byte{innerText(z, y), leafText(keyY, v)})
	texts(t, "X among Z and Y", keyX, ofX, [][]byte{innerText(z, y), leafText(keyZ, v)})
	ofO := slices.Concat([]byte{1, 0}, make([]byte, 31), []byte{1}, z[:], []byte{1}, keyO[:], v[:])
	up := [][]byte{leafText(keyO, v), innerText(z, o)}
	for range 255 {
		up = append(up, innerText(sha.Sum(up[len(up)-1]), empty))
	}
	slices.Reverse(up)
	texts(t, "O among Z and O", keyO, ofO, up)
	three := slices.Concat([]byte{0, 2, 192}, y[:], z[:], []byte{1}, keyX[:], v[:])
	texts(t, "X among Z, X and Y", keyX, three, [][]byte{innerText(innerOf(z, leafOf(keyX, v)), y), innerText(z, leafOf(keyX, v)), leafText(keyX, v)})

	root := innerOf(z, y)
	there, gone := api.Claim{There: true, Bytes: ofY}, api.Claim{Bytes: slices.Concat([]byte{0, 1, 128}, z[:], []byte{0})}
	noClash(t, "Y is there, and absent under another root", root, keyY, there, gone)
	parts(t, "Y is there, and absent under another root", keyY, there.Bytes, gone.Bytes, api.Clash{One: innerText(z, y), Two: innerText(z, empty)}, 0)
}

// Texts that another program told, each number of sides with each end: the digest of all of them, one behind the other.
func TestTextsToldElsewhere(t *testing.T) {
	key := api.Path(unhex("b56b1bdd9927d7991d43a305a14f5fb1059b2b4d4937a7e9ed13b315917f6f61"))
	ends := []api.Node{{}, leaf(key, valueOf([]byte("A"))), leaf(flip(key, 255), valueOf(nil))}
	for _, c := range []struct {
		n    int
		want [3]string
	}{
		{0, [3]string{
			"6e340b9cffb37a989ca544e6bb780a2c78901d3fb33738768511a30617afa01d",
			"53d45c078a6847e463a63293dd7e7627490d1e9d969bb7cb396454f80020b39a",
			"bf6034ab5a04855b2809eb19e9ef9479c9224a6a8e2acd6229b4e03f3bb464d0"}},
		{1, [3]string{
			"7380e17486491c2a4ae67e610f8f8171f65d0cadf890b7c9b99622fedb2b69c1",
			"e02212757003a1bb05ea7951e37b2c65b26aa462c7d9d290a7df9c7ad2a335df",
			"75e61af34386b276c79381fcd67fb5553374efeda6ee3078acd04af531eec7cb"}},
		{13, [3]string{
			"52ede2d20350ca10b2d5716c942d1d57f2ea34a1349494d930d008365cc4988b",
			"d248b6c09e27cf60514eadc96c9cd52393370b410a3092ecd14a9360523ee1b5",
			"55b8a7617f2c455209deb8b3c2ea7793a3ea74d41bdc2588b1575fad398fc818"}},
		{255, [3]string{
			"4a688140f68f5b9bd14546682c1cac00c8ae0b580868300284035da0bcfeb828",
			"ad251ca18bbdccf4cfceb6cd37881d5ab9b5bc8ab10992654fc3673366f431f1",
			"ca13611268b96495496759fa69f5f09cb6f7fccf839aabb109cbfa4b4e8751da"}},
		{256, [3]string{
			"44e391a4269041625634a1450145bba6af0055441db3e83de98293f8b67904ab",
			"8f60b951febb3485c1802b447fa50a117ccf365b278a2524ad0cd895e83a8963",
			"cb176f9744d2b764f15fda7f6ce123ff55f7ea38e37df0f7dcda7c48b110cb1e"}},
	} {
		for i, end := range ends {
			l, e := extract.Texts(key, packed(toldSides(c.n), end))
			if e != api.OK || len(l) != c.n+1 || sha.Sum(bytes.Join(l, nil)) != api.Hash(unhex(c.want[i])) {
				t.Errorf("%d sides, the end %d: Texts = %d texts, %d", c.n, i, len(l), e)
			}
		}
	}
	texts(t, "two sides", key, packed(toldSides(2), ends[1]), [][]byte{
		unhex("026e340b9cffb37a989ca544e6bb780a2c78901d3fb33738768511a30617afa01d58351e1021db6a50bdb025a88bb3be2386aa01a628844e8af2daba935bc5cd3e"),
		unhex("0253d45c078a6847e463a63293dd7e7627490d1e9d969bb7cb396454f80020b39a4bf5122f344554c53bde2ebb8cd2b7e3d1600ad631c385a5d7cce23c7785459a"),
		unhex("01b56b1bdd9927d7991d43a305a14f5fb1059b2b4d4937a7e9ed13b315917f6f615f4122c293c51f674c228094b0e0bcdd3616a1eb57fab4a0f994624592d2c170"),
	})
}

// toldSides are those of the other program.
func toldSides(n int) []api.Hash {
	l := empties(n)
	for i := range l {
		if i%3 != 0 {
			l[i] = sha.Sum([]byte{byte(i)})
		}
	}
	return l
}

// What is answered hangs on the arguments alone: asked in any order, again and again, by many at once.
func TestAskedByMany(t *testing.T) {
	l := []api.Pair{{Key: keyZ}, {Key: keyY}, {Key: keyO, Value: longest}}
	root, p, q := rootOf(t, l), wayOf(t, l, keyO), wayOf(t, l[:2], keyO)
	list, _ := textsByWords(keyO, p)
	want, at, _ := partByWords(keyO, p, q)
	done := make(chan string)
	for range 8 {
		go func() {
			for range 20 {
				texts, e := extract.Texts(keyO, p)
				c, d, f := extract.Part(keyO, p, q)
				_, ok := extract.Clash(root, keyO, api.Claim{There: true, Value: longest, Bytes: p}, api.Claim{Bytes: q})
				if !same(texts, list) || e != api.OK || !isClash(c, want) || d != at || f != api.OK || ok {
					done <- fmt.Sprint(len(texts), e, d, f, ok)
					return
				}
			}
			done <- ""
		}()
	}
	for range 8 {
		if s := <-done; s != "" {
			t.Error(s)
		}
	}
	if _, e := verify.Read(root, keyO, q); e != api.ErrFalse {
		t.Error("the second way is not another map's")
	}
}
