package verify_test

import (
	"testing"

	"rootcellar/api"
	"rootcellar/verify"
)

// Of any bytes, keys and roots all calls answer what the words want; no bytes are accepted under two roots, nor do they say two things.
func FuzzRead(f *testing.F) {
	for _, when := range []string{"0 sides, list 0, its leaf", "1 sides, list 0, another leaf", "2 sides, list 1, nothing", "9 sides, list 2, its leaf", "8 sides, list 0, another leaf", "256 sides, list 1, its leaf"} {
		a := right()[when]
		f.Add(a.root[:], a.key[:], a.b)
		f.Add(a.key[:], a.root[:], a.b)
	}
	f.Add([]byte{}, []byte{}, []byte{0, 0, 0})
	f.Fuzz(func(t *testing.T, r, k, b []byte) {
		var root api.Hash
		var key api.Path
		copy(root[:], r)
		copy(key[:], k)
		byWords(t, "any bytes", root, key, b)
		top, e := verify.Top(key, b)
		if e != api.OK {
			return
		}
		_, one := verify.Read(root, key, b)
		_, two := verify.Read(top, key, b)
		if one == api.OK && two == api.OK && root != top {
			t.Fatalf("%x is accepted under %x and %x", b, root, top)
		}
	})
}

// Two byte strings that are accepted for one key under one root say the same.
func FuzzTwo(f *testing.F) {
	a := right()["9 sides, list 2, another leaf"]
	f.Add(a.key[:], a.b, a.b)
	f.Add([]byte{}, []byte{0, 0, 0}, []byte{0, 0, 0})
	f.Fuzz(func(t *testing.T, k, b, c []byte) {
		var key api.Path
		copy(key[:], k)
		root, _ := verify.Top(key, b)
		one, e := verify.Read(root, key, b)
		two, f := verify.Read(root, key, c)
		if e == api.OK && f == api.OK && one != two {
			t.Fatalf("%x and %x say unlike things of %x under %x", b, c, key, root)
		}
	})
}
