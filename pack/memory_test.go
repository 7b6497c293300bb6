package pack_test

import (
	"bytes"
	"fmt"
	"slices"
	"testing"

	"rootcellar/api"
	"rootcellar/pack"
)

// scribble writes over bytes, their spare room, too.
func scribble(b []byte) {
	b = b[:cap(b)]
	for i := range b {
		b[i] ^= 0xa5
	}
}

// scribbleSides writes over sides, their spare room, too.
func scribbleSides(l []api.Hash) {
	l = l[:cap(l)]
	for i := range l {
		l[i] = digest(2000 + i)
	}
}

// The bytes that are answered may be written over: no other answer and not the proof is changed by it.
func TestBytesAreNewMemory(t *testing.T) {
	for when, p := range right() {
		was := slices.Clone(p.Sides)
		want := byWords(p)
		one, two := encoded(t, when, p), encoded(t, when, p)
		scribble(one)
		if !bytes.Equal(two, want) || !slices.Equal(p.Sides, was) {
			t.Fatalf("%s: bytes share memory", when)
		}
		scribble(two)
		may(t, when, p)
	}
}

// The proof that is answered may be written over: no other answer and not the bytes are changed by it.
func TestProofsAreNewMemory(t *testing.T) {
	for when, want := range right() {
		b := byWords(want)
		was := slices.Clone(b)
		one, e := pack.Decode(b)
		two, f := pack.Decode(b)
		if e != api.OK || f != api.OK {
			t.Fatalf("%s: %d, %d", when, e, f)
		}
		scribbleSides(one.Sides)
		one.End = leaf(keyN, digest(9))
		if !likeProofs(two, want) || !bytes.Equal(b, was) {
			t.Fatalf("%s: proofs share memory", when)
		}
		scribbleSides(two.Sides)
		read(t, when, b, want)
	}
}

// Sides that are handed in are neither changed nor kept, nor is their spare room read.
func TestSidesAreNotKept(t *testing.T) {
	for _, n := range append([]int{257, 300}, numbers...) {
		for pattern, l := range patterns(n) {
			when := fmt.Sprint(n, " sides, ", pattern)
			room := slices.Concat(l, []api.Hash{empty, digest(3000), digest(3001), {}})
			was := slices.Clone(room)
			p := api.Proof{Sides: room[:n], End: leaf(keyY, digest(1))}
			want := byWords(p)
			b, e := pack.Encode(p)
			size, f := pack.Size(p)
			g := pack.Check(p)
			if n > 256 {
				mayNot(t, when, p, api.ErrLong)
			} else if !bytes.Equal(b, want) || size != len(want) || e != api.OK || f != api.OK || g != api.OK {
				t.Fatalf("%s: %s, %d, %d, %d, %d", when, brief(b), e, size, f, g)
			}
			if !slices.Equal(room, was) || len(p.Sides) != n || p.End != leaf(keyY, digest(1)) {
				t.Fatalf("%s: the proof that was handed in is changed", when)
			}
			kept := bytes.Clone(b)
			scribbleSides(room)
			if !bytes.Equal(b, kept) {
				t.Fatalf("%s: the bytes hang on the proof", when)
			}
		}
	}
}

// Bytes that are handed in are neither changed nor kept, nor is their spare room read.
func TestBytesAreNotKept(t *testing.T) {
	for when, want := range right() {
		whole := byWords(want)
		room := slices.Concat(whole, []byte("spare room, which nobody reads"))
		was := slices.Clone(room)
		p, e := pack.Decode(room[:len(whole)])
		if e != api.OK || !likeProofs(p, want) || !bytes.Equal(room, was) {
			t.Fatalf("%s: Decode = %d; the bytes are %s", when, e, brief(room))
		}
		scribble(room)
		if !likeProofs(p, want) {
			t.Fatalf("%s: the proof hangs on the bytes", when)
		}
		copy(room, whole)
		for n := range whole { // what is cut off stands in the spare room, and is not found there
			unread(t, when, room[:n])
		}
		unread(t, when+", with more", room[:len(whole)+1])
	}
}

// Bytes that are refused are not changed either.
func TestRefusedBytesStay(t *testing.T) {
	c := chance(5)
	for range 2000 {
		b := c.changed(byWords(c.proof(12)))
		was := slices.Clone(b[:cap(b)])
		pack.Decode(b)
		if !bytes.Equal(b[:cap(b)], was) {
			t.Fatalf("Decode changed %x to %x", was, b)
		}
	}
}
