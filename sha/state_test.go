package sha_test

import (
	"bytes"
	"slices"
	"testing"

	"rootcellar/api"
	"rootcellar/sha"
)

// stands holds what a state tells of itself against the text that was written.
func stands(t *testing.T, when string, s *sha.State, text []byte) {
	t.Helper()
	if s.Len() != len(text) {
		t.Errorf("%s: Len = %d, not %d", when, s.Len(), len(text))
	}
	if s.Sum() != sha.Sum(text) {
		t.Errorf("%s: the Sum is not that of the %d bytes", when, len(text))
	}
}

// write writes a piece and holds Write's answer against its length.
func write(t *testing.T, s *sha.State, piece []byte) {
	t.Helper()
	if n := s.Write(piece); n != len(piece) {
		t.Errorf("Write of %d bytes = %d", len(piece), n)
	}
}

func TestNewState(t *testing.T) {
	a, b := sha.New(), sha.New()
	if a == nil || b == nil {
		t.Fatal("New answered nil")
	}
	if got := digest(a.Sum()); got != ofNothing || a.Len() != 0 {
		t.Errorf("a new state: Len %d, Sum %s", a.Len(), got)
	}
	write(t, a, []byte("abc"))
	stands(t, "written to", a, []byte("abc"))
	stands(t, "new beside it", b, nil)
	stands(t, "new behind it", sha.New(), nil)
}

func TestStateInPieces(t *testing.T) {
	for _, e := range edges {
		for _, size := range []int{1, 2, 3, 7, 31, 55, 56, 63, 64, 65, 127, 128, 129, 1000} {
			s := sha.New()
			count := 0
			for piece := range slices.Chunk(noise(e.size), size) {
				write(t, s, nil)
				write(t, s, piece)
				write(t, s, []byte{})
				count += len(piece)
				if s.Len() != count {
					t.Fatalf("%d of %d bytes, in pieces of %d: Len = %d", count, e.size, size, s.Len())
				}
			}
			if got := digest(s.Sum()); got != e.digest {
				t.Errorf("%d bytes in pieces of %d: %s", e.size, size, got)
			}
		}
	}
}

func TestStateInTwoAndThreePieces(t *testing.T) {
	text := noise(200)
	for i := range len(text) + 1 {
		s := sha.New()
		write(t, s, text[:i])
		stands(t, "one piece", s, text[:i])
		write(t, s, text[i:])
		stands(t, "two pieces", s, text)
	}
	for i := 0; i <= len(text); i += 9 {
		for j := i; j <= len(text); j += 5 {
			s := sha.New()
			write(t, s, text[:i])
			write(t, s, text[i:j])
			write(t, s, text[j:])
			stands(t, "three pieces", s, text)
		}
	}
}

func TestSumInTheMidst(t *testing.T) {
	text := noise(260)
	s := sha.New()
	for i := range text {
		stands(t, "ahead of a byte", s, text[:i])
		stands(t, "asked once more", s, text[:i])
		write(t, s, text[i:i+1])
	}
	stands(t, "at the end", s, text)
	for _, e := range edges {
		s := sha.New()
		write(t, s, noise(e.size))
		for range 3 {
			if got := digest(s.Sum()); got != e.digest {
				t.Errorf("%d bytes: %s", e.size, got)
			}
		}
		write(t, s, text)
		stands(t, "behind the Sums", s, append(noise(e.size), text...))
	}
}

func TestClones(t *testing.T) {
	one, two, three := bytes.Repeat([]byte{1}, 70), bytes.Repeat([]byte{2}, 150), bytes.Repeat([]byte{3}, 64)
	for n := range 140 {
		text := noise(n)
		s := sha.New()
		write(t, s, text)
		c := s.Clone()
		if c == nil || c == s {
			t.Fatalf("%d bytes: the clone is no state of its own", n)
		}
		stands(t, "a clone", c, text)

		write(t, c, one)
		stands(t, "a clone that is written to", c, append(noise(n), one...))
		stands(t, "whose clone is written to", s, text)

		write(t, s, two)
		stands(t, "whose original is written to", c, append(noise(n), one...))
		stands(t, "an original that is written to", s, append(noise(n), two...))

		d := c.Clone()
		write(t, d, three)
		write(t, c, two)
		stands(t, "a clone's clone", d, append(append(noise(n), one...), three...))
		stands(t, "a clone with a clone", c, append(append(noise(n), one...), two...))
		stands(t, "the first of three", s, append(noise(n), two...))
	}
}

func TestClonesByteByByte(t *testing.T) {
	s := sha.New()
	c := s.Clone()
	var left, right []byte
	for i := range 200 {
		write(t, s, []byte{byte(i)})
		write(t, c, []byte{byte(255 - i)})
		left, right = append(left, byte(i)), append(right, byte(255-i))
		stands(t, "the original", s, left)
		stands(t, "the clone", c, right)
	}
}

func TestStatesThatAreNone(t *testing.T) {
	var value sha.State
	for name, s := range map[string]*sha.State{"nil": nil, "new": new(sha.State), "a value": &value} {
		for range 2 {
			for _, piece := range [][]byte{nil, {}, {1}, noise(64), noise(200)} {
				if n := s.Write(piece); n != 0 {
					t.Errorf("%s: Write of %d bytes = %d", name, len(piece), n)
				}
			}
			if s.Len() != 0 {
				t.Errorf("%s: Len = %d", name, s.Len())
			}
			if s.Sum() != (api.Hash{}) {
				t.Errorf("%s: Sum = %s", name, digest(s.Sum()))
			}
			if s.Clone() != nil {
				t.Errorf("%s: Clone is not nil", name)
			}
		}
	}
}

func TestWriteKeepsNothing(t *testing.T) {
	for _, e := range edges {
		whole := noise(e.size + 100)
		s := sha.New()
		write(t, s, whole[:e.size])
		if digest(s.Sum()) != e.digest || !bytes.Equal(whole, noise(e.size+100)) {
			t.Errorf("%d bytes: changed, or room behind them is written or read", e.size)
		}
		for i := range whole {
			whole[i] ^= 255
		}
		if got := digest(s.Sum()); got != e.digest {
			t.Errorf("%d bytes that were changed behind Write: %s", e.size, got)
		}
	}
}

// The bits of a text of 2^29 bytes are more than a word of 32 bits counts.
func TestLongState(t *testing.T) {
	if testing.Short() {
		t.Skip("takes some seconds")
	}
	t.Parallel()
	s := sha.New()
	piece := make([]byte, 1<<20)
	for range 1 << 9 {
		s.Write(piece)
	}
	s.Write([]byte{1})
	if got := digest(s.Sum()); got != "bae94e27df354fea71f36769de3a4a563d4e86a285bdec9e94b765c55a20ab95" {
		t.Errorf("Sum of 2^29 + 1 bytes = %s", got)
	}
	if s.Len() != 1<<29+1 {
		t.Errorf("Len = %d", s.Len())
	}
}

// FuzzState does to several states what the bytes say, and to plain texts beside them.
func FuzzState(f *testing.F) {
	f.Add([]byte{})
	f.Add([]byte{64, 0, 1, 200, 1, 63, 2, 255})
	f.Add([]byte{55, 1, 56, 1, 119, 2, 120, 3, 128, 0, 0, 0})
	f.Fuzz(func(t *testing.T, plan []byte) {
		states, texts := []*sha.State{sha.New()}, [][]byte{nil}
		for i, x := range plan[:min(len(plan), 200)] {
			at := i % len(states)
			if x%4 == 1 && len(states) < 8 {
				states, texts = append(states, states[at].Clone()), append(texts, bytes.Clone(texts[at]))
				continue
			}
			piece := bytes.Repeat([]byte{x ^ byte(i)}, int(x))
			write(t, states[at], piece)
			texts[at] = append(texts[at], piece...)
			stands(t, "in the midst", states[at], texts[at])
		}
		for i, s := range states {
			stands(t, "at the end", s, texts[i])
			if got := digest(s.Sum()); got != told(texts[i]) {
				t.Errorf("Sum of %d bytes = %s, by steps %s", len(texts[i]), got, told(texts[i]))
			}
		}
	})
}
