package dict_test

import (
	"bytes"
	"slices"
	"testing"
	"unsafe"

	"rootcellar/api"
	"rootcellar/dict"
)

// filled makes a dictionary with entries, and a version beside the current map.
func filled(t testing.TB) *dict.Dict {
	t.Helper()
	d := fresh(t, 20000)
	write(t, d, many(30, scattered)...)
	put(t, d, keyZ, "z")
	snapshot(t, d, "one")
	snapshot(t, d, "two")
	put(t, d, keyZ, "another")
	put(t, d, keyY, "")
	return d
}

// scribble writes over bytes, their spare room, too.
func scribble(b []byte) {
	b = b[:cap(b)]
	for i := range b {
		b[i] ^= 0xa5
	}
}

// What is answered may be written over, its spare room, too: nothing else is changed by it.
func TestAnswersAreNewMemory(t *testing.T) {
	d := filled(t)
	unchanged(t, "written over", d, func() {
		for _, name := range []string{"", "one"} {
			for _, p := range entriesOf(d, name) {
				v, _, _ := d.Get(name, p.Key[:])
				again, _, _ := d.Get(name, p.Key[:])
				scribble(v)
				if !bytes.Equal(again, p.Value) {
					t.Fatalf("two answers of Get(%q, %x) share memory", name, p.Key)
				}
			}
			overwritePairs(t, d, name)
		}
		names, again := d.Names(), d.Names()
		for i := range names[:cap(names)] {
			names[:cap(names)][i] = "written over"
		}
		if slices.Contains(again[:cap(again)], "written over") || !slices.Equal(again, []string{"one", "two"}) {
			t.Errorf("Names = %q", again)
		}
	})
}

// overwritePairs writes over what Some answers, one value at a time, and sees that no other one is changed by it.
func overwritePairs(t testing.TB, d *dict.Dict, name string) {
	t.Helper()
	want := entriesOf(d, name)
	got, e := d.Some(name, keyZ[:], 256)
	again, f := d.Some(name, keyZ[:], 256)
	if e != api.OK || f != api.OK || !slices.EqualFunc(got, want, likePairs) {
		t.Fatalf("Some(%q) = %d entries, %d, %d", name, len(got), e, f)
	}
	for i := range got {
		scribble(got[i].Value)
		if !slices.EqualFunc(got[i+1:], want[i+1:], likePairs) {
			t.Fatalf("behind writing over the value %d others are changed", i)
		}
	}
	for i := range got[:cap(got)] {
		got[:cap(got)][i] = api.Pair{Key: lastKey}
	}
	if !slices.EqualFunc(again, want, likePairs) {
		t.Fatalf("two answers of Some(%q) share memory", name)
	}
}

// What was answered stays as it was, whatever is done later.
func TestAnswersStay(t *testing.T) {
	d := filled(t)
	v, _, _ := d.Get("one", keyZ[:])
	l, _ := d.Some("one", keyZ[:], 256)
	names := d.Names()
	want := entriesOf(d, "one")
	prune(t, d, "one")
	prune(t, d, "two")
	for i := range 40 {
		k := scattered(i)
		if _, e := d.Delete(k[:]); e != api.OK {
			t.Fatal(e)
		}
		put(t, d, near(i), "others in their slots")
	}
	if string(v) != "z" || !slices.EqualFunc(l, want, likePairs) || !slices.Equal(names, []string{"one", "two"}) {
		t.Errorf("answers of before are now %q, %d entries, %q", v, len(l), names)
	}
}

// spare makes a copy of bytes with spare room behind it.
func spare(b []byte) []byte {
	return append(bytes.Clone(b), "spare room, which nobody reads"...)[:len(b)]
}

// What was handed in is neither changed nor kept: it may be changed afterwards, its spare room, too.
func TestArgumentsAreNotKept(t *testing.T) {
	d, twin := filled(t), filled(t)
	key, value := spare(keyX[:]), spare([]byte("x"))
	l := make([]api.Raw, 0, 9)
	for i, w := range append(many(6, near), gone(keyZ), api.Raw{Key: keyY[:], Gone: true, Value: some(1100)}) {
		l = append(l, api.Raw{Key: spare(w.Key), Gone: w.Gone, Value: spare(append(w.Value, byte(i)))})
	}
	hidden := ladder(77)
	l[:9][8] = api.Raw{Key: spare(hidden[:]), Value: []byte("in the list's spare room")}
	handed := slices.Clone(l[:9])
	for i := range handed {
		handed[i].Key, handed[i].Value = bytes.Clone(handed[i].Key), bytes.Clone(handed[i].Value)
	}
	if e, f := d.Put(key, value), d.Batch(l); e != api.OK || f != api.OK {
		t.Fatalf("Put, Batch = %d, %d", e, f)
	}
	if !bytes.Equal(key, keyX[:]) || string(value) != "x" || !slices.EqualFunc(l[:9], handed, likeWrites) {
		t.Fatal("what was handed in is changed")
	}
	if !bytes.HasPrefix(key[:cap(key)][32:], []byte("spare room, which nobody reads")) || !bytes.HasPrefix(value[:cap(value)][1:], []byte("spare room, which nobody reads")) {
		t.Fatal("the spare room of what was handed in is changed")
	}
	put(t, twin, keyX, "x")
	write(t, twin, handed[:8]...)
	unchanged(t, "what was handed in is written over", d, func() {
		scribble(key)
		scribble(value)
		for i := range l[:9] {
			scribble(l[:9][i].Key)
			scribble(l[:9][i].Value)
			l[:9][i] = api.Raw{}
		}
	})
	if a, b := told(d), told(twin); a != b {
		t.Fatalf("all is\n%snot\n%s", a, b)
	}
	hasNot(t, d, "", hidden)
	ofItself(t, "at the end", d)
}

// One memory for all that is handed in is as good as many.
func TestArgumentsThatShareMemory(t *testing.T) {
	d := fresh(t, 2000)
	b := some(32)
	if e := d.Put(b, b); e != api.OK {
		t.Fatal(e)
	}
	if v, there, e := d.Get("", b); !there || e != api.OK || !bytes.Equal(v, b) {
		t.Errorf("Get = %x, %t, %d", v, there, e)
	}
	if e := d.Batch([]api.Raw{{Key: b, Value: b[:5]}, {Key: b, Value: b[3:9]}}); e != api.OK {
		t.Fatal(e)
	}
	has(t, d, "", api.Path(b), string(some(9)[3:]))
	v, _, _ := d.Get("", b)
	if e := d.Put(b, v); e != api.OK { // an answer is an argument like any other
		t.Fatal(e)
	}
	scribble(v)
	has(t, d, "", api.Path(b), string(some(9)[3:]))
}

// A name that is a piece of another text is kept without that text.
func TestNamesAreNotKept(t *testing.T) {
	d := fresh(t, 600)
	text := []byte("one two")
	name := unsafe.String(&text[0], 3)
	snapshot(t, d, name)
	put(t, d, keyZ, "z")
	rollback(t, d, name)
	copy(text, "xxxxxxx")
	named(t, "the text is written over", d, "one")
	missing(t, d, "xxx")
	prune(t, d, "one")
}
