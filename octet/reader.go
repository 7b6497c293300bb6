package octet

import "bytes"

// Reader goes through bytes from the front.
type Reader struct {
	rest []byte
	made bool // a Reader that New did not make is neither good nor bad
	bad  bool
}

// New makes a reader.
func New(b []byte) *Reader {
	return &Reader{rest: bytes.Clone(b), made: true}
}

// Byte reads a byte.
func (r *Reader) Byte() byte { return byte(r.number(1)) }

// U16 reads two bytes as a number.
func (r *Reader) U16() int { return int(r.number(2)) }

// U32 reads four bytes as a number.
func (r *Reader) U32() int64 { return r.number(4) }

// Take reads bytes.
func (r *Reader) Take(n int) []byte {
	// What is cut shares memory with what is left; only a copy may leave the package.
	return bytes.Clone(r.cut(n))
}

// Left tells how many bytes are left.
func (r *Reader) Left() int {
	if !r.good() {
		return 0
	}
	return len(r.rest)
}

// Bad tells whether more was asked for than there was.
func (r *Reader) Bad() bool { return r != nil && r.bad }

// Done tells whether all was read, and no more was asked for.
func (r *Reader) Done() bool { return r.good() && len(r.rest) == 0 }

func (r *Reader) good() bool { return r != nil && r.made && !r.bad }

// number reads size bytes as one number, the highest first.
func (r *Reader) number(size int) int64 {
	var n int64
	for _, b := range r.cut(size) {
		n = n<<8 | int64(b)
	}
	return n
}

// cut takes n bytes off the front, or makes the reader bad.
func (r *Reader) cut(n int) []byte {
	if !r.good() {
		return nil
	}
	if n < 0 || n > len(r.rest) {
		r.bad = true
		return nil
	}
	front := r.rest[:n]
	r.rest = r.rest[n:]
	return front
}
