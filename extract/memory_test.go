package extract_test

import (
	"bytes"
	"slices"
	"testing"

	"rootcellar/api"
	"rootcellar/extract"
)

// scribble writes over bytes, their spare room, too.
func scribble(b []byte) {
	b = b[:cap(b)]
	for i := range b {
		b[i] ^= 0xa5
	}
}

// roomy tells bytes with spare room behind them, and all of it.
func roomy(b []byte) (part, all []byte) {
	all = slices.Concat(b, []byte("spare room, which nobody reads"))
	return all[:len(b)], all
}

// cloned tells texts in memory of their own.
func cloned(l [][]byte) [][]byte {
	m := make([][]byte, len(l))
	for i, text := range l {
		m[i] = bytes.Clone(text)
	}
	return m
}

// Texts: what is handed in stays as it is, its spare room, too; what was answered does not change when that is written over, nor is it told again otherwise.
func TestTextsKeepsNothing(t *testing.T) {
	for when, r := range rights() {
		for _, b := range [][]byte{r.claim.Bytes, r.claim.Bytes[:len(r.claim.Bytes)-1], append(slices.Clone(r.claim.Bytes), 0)} {
			part, all := roomy(b)
			was := bytes.Clone(all)
			l, e := extract.Texts(r.key, part)
			if !bytes.Equal(all, was) {
				t.Fatalf("%s: an argument is changed", when)
			}
			kept := cloned(l)
			scribble(all)
			again, f := extract.Texts(r.key, b)
			if !same(l, kept) || !same(again, kept) || e != f {
				t.Fatalf("%s: what is answered hangs on arguments that were handed in before", when)
			}
		}
	}
}

// Part: likewise, of each of both.
func TestPartKeepsNothing(t *testing.T) {
	for when, r := range rights() {
		for _, other := range [][]byte{{0, 0, 0}, {0, 0}, packed(mixed(2), api.Node{}), r.claim.Bytes} {
			p, allP := roomy(r.claim.Bytes)
			q, allQ := roomy(other)
			wasP, wasQ := bytes.Clone(allP), bytes.Clone(allQ)
			c, d, e := extract.Part(r.key, p, q)
			if !bytes.Equal(allP, wasP) || !bytes.Equal(allQ, wasQ) {
				t.Fatalf("%s: an argument is changed", when)
			}
			kept := api.Clash{One: bytes.Clone(c.One), Two: bytes.Clone(c.Two)}
			scribble(allP)
			scribble(allQ)
			again, at, f := extract.Part(r.key, r.claim.Bytes, other)
			if !isClash(c, kept) || !isClash(again, kept) || d != at || e != f {
				t.Fatalf("%s: what is answered hangs on arguments that were handed in before", when)
			}
		}
	}
}

// Clash: the claims stay as they are, their spare room, too.
func TestClashKeepsNothing(t *testing.T) {
	for when, r := range rights() {
		for _, other := range []api.Claim{r.claim, {Value: longest, Bytes: []byte{0, 0, 0}}, {There: true, Value: []byte("B"), Bytes: r.claim.Bytes}} {
			var all, was [4][]byte
			one, two := r.claim, other
			one.Value, all[0] = roomy(one.Value)
			one.Bytes, all[1] = roomy(one.Bytes)
			two.Value, all[2] = roomy(two.Value)
			two.Bytes, all[3] = roomy(two.Bytes)
			for i := range all {
				was[i] = bytes.Clone(all[i])
			}
			noClash(t, when, r.root, r.key, one, two)
			for i := range all {
				if !bytes.Equal(all[i], was[i]) {
					t.Fatalf("%s: an argument is changed", when)
				}
				scribble(all[i])
			}
			noClash(t, when+", again", r.root, r.key, r.claim, other)
		}
	}
}

// No two lists of an answer share memory: whatever is written into one text, and behind it, is in no other one; nor is it in the next answer.
func TestTextsShareNothing(t *testing.T) {
	for _, n := range []int{0, 1, 2, 9, 256} {
		for i, end := range ends(keyX) {
			b := packed(mixed(n), end)
			want, _ := textsByWords(keyX, b)
			l, _ := extract.Texts(keyX, b)
			for d := range l {
				before := cloned(l)
				scribble(l[d])
				for j := range l {
					if j != d && !bytes.Equal(l[j], before[j]) {
						t.Fatalf("%d sides, the end %d: the texts at %d and %d share memory", n, i, d, j)
					}
				}
				l[d] = append(l[d], 1, 2, 3)
			}
			l = append(l, nil)
			clear(l[:cap(l)])
			texts(t, "again", keyX, b, want)
		}
	}
}

// Of the two texts of a pair likewise; they stand in no one's arguments.
func TestPartSharesNothing(t *testing.T) {
	p, q := packed(mixed(9), leaf(keyX, valueOf(nil))), packed(sides(9), leaf(keyX, valueOf(nil)))
	ends := [][]byte{packed(nil, leaf(keyX, valueOf(nil))), packed(nil, leaf(keyX, valueOf([]byte("A")))), {0, 0, 0}}
	for _, l := range [][2][]byte{{p, q}, {ends[0], ends[1]}, {ends[0], ends[2]}, {ends[2], p}, {p, ends[0]}} {
		want, d, _ := partByWords(keyX, l[0], l[1])
		one, two := bytes.Clone(l[0]), bytes.Clone(l[1])
		c, _, _ := extract.Part(keyX, l[0], l[1])
		scribble(c.One)
		if !bytes.Equal(c.Two, want.Two) {
			t.Errorf("the second text is %x, not %x", c.Two, want.Two)
		}
		scribble(c.Two)
		if !bytes.Equal(l[0], one) || !bytes.Equal(l[1], two) {
			t.Error("the texts lie in the arguments")
		}
		parts(t, "again", keyX, l[0], l[1], want, d)
	}
}

// The spare room is not read: what is cut off stands there, and is not found.
func TestSpareRoomIsNotRead(t *testing.T) {
	b := packed(mixed(9), leaf(keyX, valueOf([]byte("A"))))
	want, _ := textsByWords(keyX, b)
	room := slices.Concat(b, []byte{0, 1, 2, 3})
	texts(t, "with spare room", keyX, room[:len(b)], want)
	parts(t, "with spare room", keyX, room[:len(b)], b, api.Clash{}, -1)
	for n := range b {
		unread(t, "cut off", room[:n])
	}
	r := rightOf(keyX, mixed(9), leaf(keyX, valueOf([]byte("A"))), []byte("A"))
	room = []byte("AB")
	noClash(t, "a value with spare room", r.root, keyX, r.claim, api.Claim{There: true, Value: room[:1], Bytes: b})
}

// All that is handed in may be one and the same memory.
func TestSharedArguments(t *testing.T) {
	r := rightOf(keyX, mixed(3), leaf(keyX, valueOf([]byte{0})), []byte{0})
	b := r.claim.Bytes
	was := bytes.Clone(b)
	one := api.Claim{There: true, Value: b[:1], Bytes: b}
	accepted(t, "a value that lies in the bytes", right{r.root, keyX, one}, true)
	noClash(t, "a value that lies in the bytes", r.root, keyX, one, r.claim)
	noClash(t, "a value that lies in the bytes", r.root, keyX, one, api.Claim{Value: b, Bytes: b[1:]})
	if !bytes.Equal(b, was) {
		t.Error("the bytes are changed")
	}
}
