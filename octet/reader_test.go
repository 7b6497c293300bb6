package octet_test

import (
	"bytes"
	"fmt"
	"math"
	"testing"

	"rootcellar/octet"
)

// stands holds what a reader tells of itself against what it should.
func stands(t *testing.T, when string, r *octet.Reader, left int, bad, done bool) {
	t.Helper()
	if r.Left() != left || r.Bad() != bad || r.Done() != done {
		t.Errorf("%s: Left %d, Bad %t, Done %t, not %d, %t, %t", when, r.Left(), r.Bad(), r.Done(), left, bad, done)
	}
}

// tellsNothing asks for everything: each answer is zero.
func tellsNothing(t *testing.T, when string, r *octet.Reader) {
	t.Helper()
	if r.Byte() != 0 || r.U16() != 0 || r.U32() != 0 {
		t.Errorf("%s: a number that is not 0", when)
	}
	for _, n := range []int{0, 1, 2, -1, math.MinInt, math.MaxInt} {
		if b := r.Take(n); len(b) != 0 {
			t.Errorf("%s: Take(%d) = %v", when, n, b)
		}
	}
}

func TestExamplesOfReaders(t *testing.T) {
	r := octet.New([]byte{1, 2, 3, 4, 5})
	if n := r.U16(); n != 258 {
		t.Errorf("U16 = %d", n)
	}
	if b := r.Take(2); !bytes.Equal(b, []byte{3, 4}) {
		t.Errorf("Take(2) = %v", b)
	}
	if n := r.Left(); n != 1 {
		t.Errorf("Left = %d", n)
	}
	if x := r.Byte(); x != 5 {
		t.Errorf("Byte = %d", x)
	}
	if !r.Done() {
		t.Error("not Done")
	}
	if x := r.Byte(); x != 0 || !r.Bad() || r.Done() {
		t.Error("one byte more", x, r.Bad(), r.Done())
	}

	s := octet.New([]byte{1})
	if b := s.Take(-1); len(b) != 0 {
		t.Errorf("Take(-1) = %v", b)
	}
	if s.Left() != 0 || s.Byte() != 0 {
		t.Error("a bad reader tells something")
	}

	var none *octet.Reader
	if none.Byte() != 0 || len(none.Take(1)) != 0 {
		t.Error("nil tells something")
	}
	stands(t, "nil", none, 0, false, false)
}

func TestReaderOfNothing(t *testing.T) {
	for _, b := range [][]byte{nil, {}, []byte{1, 2}[:0]} {
		r := octet.New(b)
		if r == nil {
			t.Fatal("New answered nil")
		}
		stands(t, "at the beginning", r, 0, false, true)
		if len(r.Take(0)) != 0 {
			t.Error("Take(0)")
		}
		stands(t, "behind Take(0)", r, 0, false, true)
		tellsNothing(t, "nothing is left", r)
		stands(t, "asked for more", r, 0, true, false)
	}
}

// ask is a way to ask a reader for so many bytes, told as a number.
type ask struct {
	name string
	size int
	of   func(*octet.Reader) int64
}

func asks() []ask {
	return []ask{
		{"Byte", 1, func(r *octet.Reader) int64 { return int64(r.Byte()) }},
		{"U16", 2, func(r *octet.Reader) int64 { return int64(r.U16()) }},
		{"U32", 4, func(r *octet.Reader) int64 { return r.U32() }},
		{"Take(1)", 1, func(r *octet.Reader) int64 { return number(r.Take(1)) }},
		{"Take(3)", 3, func(r *octet.Reader) int64 { return number(r.Take(3)) }},
		{"Take(7)", 7, func(r *octet.Reader) int64 { return number(r.Take(7)) }},
	}
}

func number(b []byte) int64 {
	var n int64
	for _, x := range b {
		n = n*256 + int64(x)
	}
	return n
}

func TestAskedForJustWhatIsLeftAndForMore(t *testing.T) {
	full := []byte{0x81, 0x92, 0xa3, 0xb4, 0xc5, 0xd6, 0xe7, 0xf8}
	for _, a := range asks() {
		for have := range len(full) + 1 {
			r := octet.New(full[:have])
			when := fmt.Sprintf("%s of %d bytes", a.name, have)
			got := a.of(r)
			if have < a.size {
				if got != 0 {
					t.Errorf("%s = %d", when, got)
				}
				stands(t, when, r, 0, true, false)
				tellsNothing(t, when, r)
				stands(t, when, r, 0, true, false)
				continue
			}
			if got != number(full[:a.size]) {
				t.Errorf("%s = %d", when, got)
			}
			stands(t, when, r, have-a.size, false, have == a.size)
			if rest := r.Take(have - a.size); !bytes.Equal(rest, full[a.size:have]) {
				t.Errorf("%s leaves %v", when, rest)
			}
		}
	}
}

func TestNumbersAtBothEnds(t *testing.T) {
	r := octet.New([]byte{255, 0, 0, 255, 255, 0, 0, 0, 0, 255, 255, 255, 255, 128, 0, 0, 0})
	if x := r.Byte(); x != 255 {
		t.Errorf("Byte = %d", x)
	}
	if n := r.U16(); n != 0 {
		t.Errorf("U16 = %d", n)
	}
	if n := r.U16(); n != 65535 {
		t.Errorf("U16 = %d", n)
	}
	if n := r.U32(); n != 0 {
		t.Errorf("U32 = %d", n)
	}
	if n := r.U32(); n != 4294967295 {
		t.Errorf("U32 = %d", n)
	}
	if n := r.U32(); n != 2147483648 {
		t.Errorf("U32 = %d", n)
	}
	stands(t, "at the end", r, 0, false, true)
}

func TestTakeAtItsEdges(t *testing.T) {
	for _, n := range []int{-1, -2, math.MinInt, 4, 5, math.MaxInt} {
		r := octet.New([]byte{1, 2, 3})
		when := fmt.Sprintf("Take(%d) of 3 bytes", n)
		if b := r.Take(n); len(b) != 0 {
			t.Errorf("%s = %v", when, b)
		}
		stands(t, when, r, 0, true, false)
		tellsNothing(t, when, r)
		stands(t, when, r, 0, true, false)
	}
	r := octet.New([]byte{1, 2, 3})
	if b := r.Take(0); len(b) != 0 {
		t.Errorf("Take(0) = %v", b)
	}
	stands(t, "Take(0)", r, 3, false, false)
	if b := r.Take(3); !bytes.Equal(b, []byte{1, 2, 3}) {
		t.Errorf("Take(3) = %v", b)
	}
	stands(t, "Take(3)", r, 0, false, true)
	if b := r.Take(-1); len(b) != 0 {
		t.Errorf("Take(-1) = %v", b)
	}
	stands(t, "Take(-1) where nothing is left", r, 0, true, false)
}

func TestTellingOfItselfTakesNothing(t *testing.T) {
	r := octet.New([]byte{1, 2})
	for range 5 {
		stands(t, "asked again", r, 2, false, false)
	}
	if r.U16() != 258 {
		t.Error("bytes are gone")
	}
}

func TestReaderKeepsACopy(t *testing.T) {
	room := []byte{1, 2, 3, 4, 5, 6}
	r := octet.New(room[:4])
	scribble(room)
	stands(t, "a reader of four bytes with spare room behind", r, 4, false, false)
	one := r.Take(1)
	two := r.Take(2)
	scribble(one)
	_ = append(one, 9, 9, 9)
	if !bytes.Equal(two, []byte{2, 3}) {
		t.Errorf("two pieces share memory: %v", two)
	}
	scribble(two)
	_ = append(two, 9, 9, 9)
	if x := r.Byte(); x != 4 {
		t.Errorf("a piece shares memory with what is left: %d", x)
	}
	stands(t, "at the end", r, 0, false, true)
	for _, x := range room {
		if x != 0xee {
			t.Fatal("what was handed in is changed")
		}
	}
}

// What Take of 0 tells has spare room of its own, too.
func TestTakeOfNoneSharesNothing(t *testing.T) {
	r := octet.New([]byte{1, 2, 3})
	scribble(r.Take(0))
	_ = append(r.Take(0), 9, 9, 9)
	if b := r.Take(3); !bytes.Equal(b, []byte{1, 2, 3}) {
		t.Errorf("Take(3) = %v", b)
	}
	scribble(r.Take(0))
	stands(t, "at the end", r, 0, false, true)
}

func TestReadersAreByThemselves(t *testing.T) {
	b := []byte{1, 2, 3}
	one, two := octet.New(b), octet.New(b)
	one.Take(9)
	stands(t, "the one", one, 0, true, false)
	stands(t, "the other", two, 3, false, false)
	if !bytes.Equal(two.Take(3), b) {
		t.Error("the other tells something else")
	}
}

func TestReadersThatNewDidNotMake(t *testing.T) {
	var plain octet.Reader
	for when, r := range map[string]*octet.Reader{"nil": nil, "a new one": new(octet.Reader), "a plain one": &plain} {
		stands(t, when, r, 0, false, false)
		tellsNothing(t, when, r)
		stands(t, when+", asked", r, 0, false, false)
	}
}

func TestNumbersThereAndBack(t *testing.T) {
	for n := range 65536 {
		b, _ := octet.Put16(n)
		r := octet.New(b)
		if got := r.U16(); got != n || !r.Done() {
			t.Fatalf("U16 of Put16(%d) = %d", n, got)
		}
	}
	for bit := range 32 {
		for _, n := range []int64{1 << bit, 1<<bit - 1, 1<<32 - 1<<bit, 0x89abcdef >> bit} {
			b, _ := octet.Put32(n)
			r := octet.New(b)
			if got := r.U32(); got != n || !r.Done() {
				t.Fatalf("U32 of Put32(%d) = %d", n, got)
			}
		}
	}
}

func TestPiecesAreTheWhole(t *testing.T) {
	whole := noise(2000)
	for _, step := range []int{0, 1, 2, 3, 7, 64, 1999, 2000} {
		r := octet.New(whole)
		var parts [][]byte
		for i := 0; !r.Done(); i++ {
			// Steps grow, so that step 0 comes to an end as well.
			parts = append(parts, r.Take(min(step+i, r.Left())))
		}
		if r.Bad() || !bytes.Equal(octet.Join(parts), whole) {
			t.Errorf("pieces from %d bytes on", step)
		}
	}
}

// model is a reader in the document's words: what is left, and whether it is bad.
type model struct {
	rest []byte
	bad  bool
}

func (m *model) take(n int) []byte {
	if m.bad || n < 0 || n > len(m.rest) {
		m.bad = true
		return nil
	}
	b := m.rest[:n]
	m.rest = m.rest[n:]
	return b
}

// follow has the reader and the model do the same and holds them against each other.
func follow(t *testing.T, r *octet.Reader, m *model, step byte) {
	t.Helper()
	switch step % 8 {
	case 0:
		if got, want := int64(r.Byte()), number(m.take(1)); got != want {
			t.Fatalf("Byte = %d, not %d", got, want)
		}
	case 1:
		if got, want := int64(r.U16()), number(m.take(2)); got != want {
			t.Fatalf("U16 = %d, not %d", got, want)
		}
	case 2:
		if got, want := r.U32(), number(m.take(4)); got != want {
			t.Fatalf("U32 = %d, not %d", got, want)
		}
	default:
		n := int(step/8)%8 - 1
		if got, want := r.Take(n), m.take(n); !bytes.Equal(got, want) {
			t.Fatalf("Take(%d) = %v, not %v", n, got, want)
		}
	}
	left := len(m.rest)
	if m.bad {
		left = 0
	}
	stands(t, "behind a step", r, left, m.bad, !m.bad && left == 0)
}

func FuzzReader(f *testing.F) {
	f.Add([]byte{1, 2, 3, 4, 5}, []byte{1, 27, 0, 0})
	f.Add([]byte{1}, []byte{3, 0})
	f.Add(noise(40), []byte{2, 1, 0, 11, 19, 27, 35, 2, 2, 2})
	f.Add(noise(300), noise(200))
	f.Fuzz(func(t *testing.T, b, steps []byte) {
		r, m := octet.New(b), &model{rest: bytes.Clone(b)}
		for _, step := range steps {
			follow(t, r, m, step)
		}
	})
}
