package extract_test

import (
	"testing"

	"rootcellar/api"
	"rootcellar/extract"
	"rootcellar/tag"
	"rootcellar/verify"
)

// Of any bytes and keys Texts answers what the words want, and each text has the digest that the text ahead of it names.
func FuzzTexts(f *testing.F) {
	for _, when := range []string{"0 sides, list 0, there, value 2", "1 sides, list 0, another leaf", "2 sides, list 1, nothing", "9 sides, list 2, there, value 3", "256 sides, list 1, there, value 0"} {
		r := rights()[when]
		f.Add(r.key[:], r.claim.Bytes)
		f.Add([]byte{}, r.claim.Bytes)
	}
	f.Fuzz(func(t *testing.T, k, b []byte) {
		var key api.Path
		copy(key[:], k)
		byWords(t, "any bytes", key, b)
	})
}

// Of any two byte strings and a key Part answers what the words want.
func FuzzPart(f *testing.F) {
	r := rights()["9 sides, list 2, there, value 2"]
	f.Add(r.key[:], r.claim.Bytes, r.claim.Bytes)
	f.Add(r.key[:], r.claim.Bytes, []byte{0, 0, 0})
	f.Add([]byte{}, packed(sides(1), api.Node{}), packed(sides(2), api.Node{}))
	f.Fuzz(func(t *testing.T, k, p, q []byte) {
		var key api.Path
		copy(key[:], k)
		partsByWords(t, "any bytes", key, p, q)
	})
}

// Of any two claims Clash answers nothing, or two unlike texts with one digest; these, if both are accepted and unlike, and else nothing.
func FuzzClash(f *testing.F) {
	r := rights()["9 sides, list 2, there, value 2"]
	f.Add(r.key[:], true, r.claim.Value, r.claim.Bytes, true, r.claim.Value, r.claim.Bytes)
	f.Add(r.key[:], true, r.claim.Value, r.claim.Bytes, false, []byte{}, []byte{0, 0, 0})
	f.Add([]byte{}, false, []byte{1}, []byte{0, 0, 0}, false, []byte{}, []byte{0, 0, 0})
	f.Fuzz(func(t *testing.T, k []byte, there bool, v, p []byte, also bool, w, q []byte) {
		var key api.Path
		copy(key[:], k)
		one, two := api.Claim{There: there, Value: v, Bytes: p}, api.Claim{There: also, Value: w, Bytes: q}
		root, _ := verify.Top(key, p)
		c, ok := extract.Clash(root, key, one, two)
		if ok != tag.Clash(c) || !ok && (c.One != nil || c.Two != nil) {
			t.Fatalf("Clash(%x, %x, %s, %s) = %x, %x, %t", root, key, said(one), said(two), c.One, c.Two, ok)
		}
	})
}
