package verify_test

import (
	"bytes"
	"slices"
	"testing"

	"rootcellar/api"
	"rootcellar/verify"
)

// scribble writes over bytes, their spare room, too.
func scribble(b []byte) {
	b = b[:cap(b)]
	for i := range b {
		b[i] ^= 0xa5
	}
}

// answers are those of all calls.
type answers struct {
	said            api.Said
	e               api.Errno
	present, absent bool
	top             api.Hash
	topE            api.Errno
}

func ask(root api.Hash, key api.Path, value, b []byte) (a answers) {
	a.said, a.e = verify.Read(root, key, b)
	a.present = verify.Present(root, key, value, b)
	a.absent = verify.Absent(root, key, b)
	a.top, a.topE = verify.Top(key, b)
	return a
}

// What is handed in stays as it is, its spare room, too; what was answered does not change when it is written over, nor does what is answered to the same arguments again.
func TestArgumentsStay(t *testing.T) {
	for when, a := range right() {
		for _, b := range [][]byte{a.b, a.b[:len(a.b)-1], append(slices.Clone(a.b), 0)} {
			room := slices.Concat(b, []byte("spare room, which nobody reads"))
			value := []byte("A and spare room")
			was, valueWas := slices.Clone(room), slices.Clone(value)
			root, key := a.root, a.key
			one := ask(root, key, value[:1], room[:len(b)])
			if !bytes.Equal(room, was) || !bytes.Equal(value, valueWas) || root != a.root || key != a.key {
				t.Fatalf("%s: an argument is changed", when)
			}
			kept := one
			scribble(room)
			scribble(value)
			if one != kept || ask(a.root, a.key, []byte("A"), b) != kept {
				t.Fatalf("%s: what is answered hangs on arguments that were handed in before", when)
			}
		}
	}
}

// The spare room is not read: what is cut off stands there, and is not found; nor is what stands behind a value.
func TestSpareRoomIsNotRead(t *testing.T) {
	root, b := topOf(keyX, mixed(9), leaf(keyX, valueOf([]byte("A"))))
	room := slices.Concat(b, []byte{0, 1, 2, 3})
	there(t, "with spare room", root, keyX, []byte("A"), room[:len(b)])
	for n := range b {
		reads(t, "cut off", root, keyX, room[:n], api.Said{}, api.ErrBytes)
	}
	value := []byte("AAAA")
	if !verify.Present(root, keyX, value[:1], b) || verify.Present(root, keyX, value[:0], b) || verify.Present(root, keyX, value[:2], b) {
		t.Error("the spare room of a value is read")
	}
	long := append(slices.Clone(longest), 0)
	root, b = topOf(keyX, nil, leaf(keyX, valueOf(longest)))
	if !verify.Present(root, keyX, long[:1024], b) || verify.Present(root, keyX, long, b) {
		t.Error("the spare room of the longest value is read")
	}
}

// An answer is its caller's: what is written into one is in no other.
func TestAnswersAreNew(t *testing.T) {
	root, b := topOf(keyX, mixed(9), leaf(keyX, valueOf([]byte("A"))))
	want := ask(root, keyX, []byte("A"), b)
	one := ask(root, keyX, []byte("A"), b)
	scribble(one.said.Value[:])
	scribble(one.top[:])
	if two := ask(root, keyX, []byte("A"), b); two != want {
		t.Errorf("the answers are %v, not %v", two, want)
	}
}

// The value and the bytes may be one and the same memory.
func TestSharedArguments(t *testing.T) {
	root, b := topOf(keyX, mixed(3), leaf(keyX, valueOf([]byte{0})))
	was := slices.Clone(b)
	if !verify.Present(root, keyX, b[:1], b) || verify.Present(root, keyX, b, b) || verify.Present(root, keyX, b[1:], b) || !bytes.Equal(b, was) {
		t.Error("a value that lies in the bytes")
	}
}
