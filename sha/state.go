package sha

import "rootcellar/api"

// State is a text that grows.
type State struct {
	words [8]uint32
	block [blockBytes]byte // its first count % blockBytes bytes still wait for a block step
	count int
	made  bool // a State that neither New nor Clone answered is none
}

// New makes a state.
func New() *State { return &State{words: first, made: true} }

// Write writes behind what was written.
func (s *State) Write(b []byte) int {
	if !s.good() {
		return 0
	}
	for rest := b; len(rest) > 0; {
		n := copy(s.block[s.filled():], rest)
		rest = rest[n:]
		s.count += n
		if s.filled() == 0 {
			s.words = Step(s.words, s.block)
		}
	}
	return len(b)
}

// Sum tells the digest of what was written.
func (s *State) Sum() api.Hash {
	if !s.good() {
		return api.Hash{}
	}
	end := *s // a copy, as what stands behind the text is none of it
	end.Write(padding(s.count))
	return bytesOf(end.words)
}

// Len tells how many bytes were written.
func (s *State) Len() int {
	if !s.good() {
		return 0
	}
	return s.count
}

// Clone tells a state that stands as this one.
func (s *State) Clone() *State {
	if !s.good() {
		return nil
	}
	c := *s
	return &c
}

func (s *State) good() bool { return s != nil && s.made }

// filled tells how many bytes of the block are written; a full block is stepped at once, so it counts as none.
func (s *State) filled() int { return s.count % blockBytes }

// padding tells what stands behind a text of n bytes: 128, noughts, and 8 n as eight bytes.
func padding(n int) []byte {
	// The byte 128 and the number take 9 bytes; the second block keeps the difference from going below 0.
	noughts := (2*blockBytes - 9 - n%blockBytes) % blockBytes
	pad := make([]byte, 1+noughts, 1+noughts+8)
	pad[0] = 128
	bits := uint64(n) * 8
	for shift := 56; shift >= 0; shift -= 8 {
		pad = append(pad, byte(bits>>shift))
	}
	return pad
}
