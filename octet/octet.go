// Package octet is layer 1: bytes: see shared/doc/01-octet.md.
package octet

import (
	"bytes"
	"math"
	"strings"

	"rootcellar/api"
)

const (
	digits  = "0123456789abcdef"
	noBytes = "-" // an empty text would be lost among words in a line
)

// Hex tells bytes as digits.
func Hex(b []byte) string {
	if len(b) == 0 {
		return noBytes
	}
	text := make([]byte, 0, 2*len(b))
	for _, x := range b {
		text = append(text, digits[x>>4], digits[x&15])
	}
	return string(text)
}

// Unhex reads digits.
func Unhex(s string) ([]byte, api.Errno) {
	if len(s) > api.MaxText {
		return nil, api.ErrLong
	}
	if s == noBytes {
		return nil, api.OK
	}
	if len(s) == 0 || len(s)%2 != 0 {
		return nil, api.ErrHex
	}
	b := make([]byte, 0, len(s)/2)
	for i := 0; i < len(s); i += 2 {
		high, low := digit(s[i]), digit(s[i+1])
		if high < 0 || low < 0 {
			return nil, api.ErrHex
		}
		b = append(b, byte(high<<4|low))
	}
	return b, api.OK
}

// digit tells what a digit stands for, and -1 of any other byte.
func digit(c byte) int { return strings.IndexByte(digits, c) }

// Compare compares byte by byte.
func Compare(a, b []byte) int { return bytes.Compare(a, b) }

// Join tells parts one behind the other.
func Join(parts [][]byte) []byte { return bytes.Join(parts, nil) }

// Put16 tells a number as two bytes.
func Put16(n int) ([]byte, api.Errno) {
	if n < 0 || n > math.MaxUint16 {
		return nil, api.ErrArg
	}
	return []byte{byte(n >> 8), byte(n)}, api.OK
}

// Put32 tells a number as four bytes.
func Put32(n int64) ([]byte, api.Errno) {
	if n < 0 || n > math.MaxUint32 {
		return nil, api.ErrArg
	}
	return []byte{byte(n >> 24), byte(n >> 16), byte(n >> 8), byte(n)}, api.OK
}
