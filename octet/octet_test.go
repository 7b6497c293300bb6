package octet_test

import (
	"bytes"
	"fmt"
	"math"
	"strings"
	"testing"

	"rootcellar/api"
	"rootcellar/octet"
)

// refused holds an answer against rule 2: an error, and zero values beside it.
func refused(t *testing.T, call string, b []byte, got, want api.Errno) {
	t.Helper()
	if got != want || len(b) != 0 {
		t.Errorf("%s = %v, %d, not none, %d", call, b, got, want)
	}
}

func told(t *testing.T, call string, b []byte, e api.Errno, want []byte) {
	t.Helper()
	if e != api.OK || !bytes.Equal(b, want) {
		t.Errorf("%s = %v, %d, not %v, OK", call, b, e, want)
	}
}

// scribble writes over a list and its spare room, so that whatever shares either shows it.
func scribble(b []byte) {
	b = b[:cap(b)]
	for i := range b {
		b[i] = 0xee
	}
}

// noise tells bytes that look like nothing and are the same in every run.
func noise(n int) []byte {
	b := make([]byte, n)
	x := uint32(1)
	for i := range b {
		x = x*1664525 + 1013904223
		b[i] = byte(x >> 24)
	}
	return b
}

func TestExamplesOfDigitsAndNumbers(t *testing.T) {
	if s := octet.Hex([]byte{0, 255}); s != "00ff" {
		t.Errorf("Hex(0, 255) = %q", s)
	}
	if s := octet.Hex([]byte{}); s != "-" {
		t.Errorf("Hex() = %q", s)
	}
	b, e := octet.Unhex("00ff")
	told(t, "Unhex(00ff)", b, e, []byte{0, 255})
	b, e = octet.Unhex("-")
	told(t, "Unhex(-)", b, e, nil)
	for _, s := range []string{"", "0F", "0", "00--"} {
		b, e = octet.Unhex(s)
		refused(t, fmt.Sprintf("Unhex(%q)", s), b, e, api.ErrHex)
	}
	if c := octet.Compare([]byte{1}, []byte{1, 0}); c != -1 {
		t.Errorf("Compare(1, 1 0) = %d", c)
	}
	if c := octet.Compare([]byte{2}, []byte{1, 9}); c != 1 {
		t.Errorf("Compare(2, 1 9) = %d", c)
	}
	if c := octet.Compare(nil, []byte{}); c != 0 {
		t.Errorf("Compare(,) = %d", c)
	}
	b, e = octet.Put16(258)
	told(t, "Put16(258)", b, e, []byte{1, 2})
	b, e = octet.Put16(65536)
	refused(t, "Put16(65536)", b, e, api.ErrArg)
	b, e = octet.Put32(1)
	told(t, "Put32(1)", b, e, []byte{0, 0, 0, 1})
}

func TestHexOfEveryByte(t *testing.T) {
	if s := octet.Hex(nil); s != "-" {
		t.Errorf("Hex(nil) = %q", s)
	}
	var all []byte
	var want strings.Builder
	for x := range 256 {
		fmt.Fprintf(&want, "%02x", x)
		all = append(all, byte(x))
		if s := octet.Hex([]byte{byte(x)}); s != fmt.Sprintf("%02x", x) {
			t.Errorf("Hex(%d) = %q", x, s)
		}
	}
	if s := octet.Hex(all); s != want.String() {
		t.Errorf("Hex of all bytes = %q", s)
	}
}

func TestHexHasNoLimit(t *testing.T) {
	b := noise(100_000)
	if s := octet.Hex(b); s != fmt.Sprintf("%x", b) {
		t.Error("Hex of 100,000 bytes")
	}
}

func TestHexLeavesItsBytesAlone(t *testing.T) {
	room := []byte{1, 2, 3, 4}
	if s := octet.Hex(room[:2]); s != "0102" || !bytes.Equal(room, []byte{1, 2, 3, 4}) {
		t.Error(s, room)
	}
}

// Every byte stands once as the higher and once as the lower digit: just the sixteen are read.
func TestUnhexReadsJustTheSixteenDigits(t *testing.T) {
	const sixteen = "0123456789abcdef"
	for c := range 256 {
		high, low := string([]byte{byte(c), '7'}), string([]byte{'7', byte(c)})
		bh, eh := octet.Unhex(high)
		bl, el := octet.Unhex(low)
		v := strings.IndexByte(sixteen, byte(c))
		if v < 0 {
			refused(t, fmt.Sprintf("Unhex(%q)", high), bh, eh, api.ErrHex)
			refused(t, fmt.Sprintf("Unhex(%q)", low), bl, el, api.ErrHex)
			continue
		}
		told(t, fmt.Sprintf("Unhex(%q)", high), bh, eh, []byte{byte(v*16 + 7)})
		told(t, fmt.Sprintf("Unhex(%q)", low), bl, el, []byte{byte(7*16 + v)})
	}
}

func TestUnhexRefusesWhatHexNeverTells(t *testing.T) {
	wrong := []string{
		"", " ", "-0", "0-", "--", "-00", "00-", "---", "- ", " -", "-\x00",
		"0", "000", "00f", "FF", "fF", "Ff", "0x", "0x00", "00 ", " 00", "00 ff",
		"00\n", "+0", "0g", "g0", "00g0", "000g", "é", "\x00\x00", "\xff\xff", "００",
	}
	for _, s := range wrong {
		b, e := octet.Unhex(s)
		refused(t, fmt.Sprintf("Unhex(%q)", s), b, e, api.ErrHex)
	}
}

func TestUnhexAtItsLimit(t *testing.T) {
	b, e := octet.Unhex(strings.Repeat("a5", 32768))
	told(t, "Unhex of 65,536 digits", b, e, bytes.Repeat([]byte{0xa5}, 32768))
	b, e = octet.Unhex(strings.Repeat("a", 65535))
	refused(t, "Unhex of 65,535 digits", b, e, api.ErrHex)
	b, e = octet.Unhex(strings.Repeat("a", 65535) + "g")
	refused(t, "Unhex of 65,536 bytes, the last no digit", b, e, api.ErrHex)
	// Too long goes ahead of wrong digits, and of an odd number of them.
	for _, s := range []string{strings.Repeat("a", 65537), strings.Repeat("a", 65538), strings.Repeat("-", 65537), strings.Repeat("G", 70000)} {
		b, e = octet.Unhex(s)
		refused(t, fmt.Sprintf("Unhex of %d bytes", len(s)), b, e, api.ErrLong)
	}
}

func TestUnhexTellsNewMemory(t *testing.T) {
	one, _ := octet.Unhex("010203")
	two, _ := octet.Unhex("010203")
	scribble(one)
	three, e := octet.Unhex("010203")
	told(t, "a second answer", two, api.OK, []byte{1, 2, 3})
	told(t, "a third answer", three, e, []byte{1, 2, 3})
}

// shorts tells all texts of at most 3 bytes made of the ends and the middle of what a byte may be.
func shorts() [][]byte {
	all := [][]byte{nil}
	for i := 0; i < len(all); i++ {
		if len(all[i]) == 3 {
			break
		}
		for _, x := range []byte{0, 1, 127, 128, 255} {
			all = append(all, append(bytes.Clone(all[i]), x))
		}
	}
	return all
}

// order is the document's words: the first unlike byte tells, else a beginning stands ahead.
func order(a, b []byte) int {
	for i := range min(len(a), len(b)) {
		if a[i] < b[i] {
			return -1
		}
		if a[i] > b[i] {
			return 1
		}
	}
	switch {
	case len(a) < len(b):
		return -1
	case len(a) > len(b):
		return 1
	}
	return 0
}

func TestCompare(t *testing.T) {
	texts := append(shorts(), []byte{}, noise(1000), noise(1001))
	for _, a := range texts {
		for _, b := range texts {
			if c := octet.Compare(a, b); c != order(a, b) {
				t.Fatalf("Compare(%v, %v) = %d", a, b, c)
			}
		}
	}
}

func TestCompareLooksAtNoSpareRoom(t *testing.T) {
	if c := octet.Compare([]byte{1, 9}[:1], []byte{1, 2}[:1]); c != 0 {
		t.Errorf("Compare(1, 1) = %d", c)
	}
}

func TestJoin(t *testing.T) {
	rows := []struct {
		parts [][]byte
		want  []byte
	}{
		{nil, nil},
		{[][]byte{}, nil},
		{[][]byte{nil}, nil},
		{[][]byte{nil, {}, nil}, nil},
		{[][]byte{{7}}, []byte{7}},
		{[][]byte{{1, 2}, {3}}, []byte{1, 2, 3}},
		{[][]byte{{3}, {1, 2}}, []byte{3, 1, 2}},
		{[][]byte{nil, {1}, nil, {2, 3}, nil}, []byte{1, 2, 3}},
		{[][]byte{{1}, {1}, {1}}, []byte{1, 1, 1}},
	}
	for _, row := range rows {
		if b := octet.Join(row.parts); !bytes.Equal(b, row.want) {
			t.Errorf("Join(%v) = %v", row.parts, b)
		}
	}
	long := noise(5000)
	var parts [][]byte
	for i := range long {
		parts = append(parts, long[i:i+1])
	}
	if !bytes.Equal(octet.Join(parts), long) {
		t.Error("Join of 5,000 parts")
	}
}

func TestJoinTellsNewMemory(t *testing.T) {
	room := []byte{1, 2, 3, 4}
	for _, parts := range [][][]byte{{room[:1]}, {room[:1], room[2:3]}, {nil, room[:1]}, {room[:1], nil}, {room}, {room[:0]}} {
		kept := append([][]byte(nil), parts...)
		b := octet.Join(parts)
		scribble(b)
		_ = append(b, 9)
		if !bytes.Equal(room, []byte{1, 2, 3, 4}) {
			t.Fatalf("Join of %d parts shares memory: %v", len(parts), room)
		}
		for i := range parts {
			if len(parts[i]) != len(kept[i]) || cap(parts[i]) != cap(kept[i]) {
				t.Error("Join changed the list of parts")
			}
		}
	}
}

func TestPut16(t *testing.T) {
	for n := range 65536 {
		b, e := octet.Put16(n)
		if e != api.OK || len(b) != 2 || int(b[0])*256+int(b[1]) != n {
			t.Fatalf("Put16(%d) = %v, %d", n, b, e)
		}
	}
	for _, n := range []int{-1, -2, -256, -65536, 65536, 65537, 1 << 24, 1 << 32, math.MinInt, math.MinInt + 1, math.MaxInt} {
		b, e := octet.Put16(n)
		refused(t, fmt.Sprintf("Put16(%d)", n), b, e, api.ErrArg)
	}
}

func TestPut32(t *testing.T) {
	rows := []struct {
		n    int64
		want []byte
	}{
		{0, []byte{0, 0, 0, 0}},
		{255, []byte{0, 0, 0, 255}},
		{256, []byte{0, 0, 1, 0}},
		{65535, []byte{0, 0, 255, 255}},
		{65536, []byte{0, 1, 0, 0}},
		{0x01020304, []byte{1, 2, 3, 4}},
		{1<<31 - 1, []byte{127, 255, 255, 255}},
		{1 << 31, []byte{128, 0, 0, 0}},
		{1<<32 - 2, []byte{255, 255, 255, 254}},
		{1<<32 - 1, []byte{255, 255, 255, 255}},
	}
	for _, row := range rows {
		b, e := octet.Put32(row.n)
		told(t, fmt.Sprintf("Put32(%d)", row.n), b, e, row.want)
	}
	for _, n := range []int64{-1, -2, -1 << 31, -1 << 32, 1 << 32, 1<<32 + 1, 1 << 40, math.MinInt64, math.MinInt64 + 1, math.MaxInt64} {
		b, e := octet.Put32(n)
		refused(t, fmt.Sprintf("Put32(%d)", n), b, e, api.ErrArg)
	}
}

func TestPutTellsNewMemory(t *testing.T) {
	a, _ := octet.Put16(258)
	b, _ := octet.Put32(258)
	scribble(a)
	scribble(b)
	a, e := octet.Put16(258)
	told(t, "Put16(258)", a, e, []byte{1, 2})
	b, e = octet.Put32(258)
	told(t, "Put32(258)", b, e, []byte{0, 0, 1, 2})
}

func TestDigitsThereAndBack(t *testing.T) {
	for _, b := range append(shorts(), []byte{}, noise(32), noise(32768)) {
		s := octet.Hex(b)
		back, e := octet.Unhex(s)
		told(t, fmt.Sprintf("Unhex of Hex of %d bytes", len(b)), back, e, b)
		if octet.Hex(back) != s {
			t.Errorf("Hex of Unhex of %q", s)
		}
	}
	for _, s := range []string{"-", "00", "7f80", "deadbeef", "0123456789abcdef"} {
		b, e := octet.Unhex(s)
		if e != api.OK || octet.Hex(b) != s {
			t.Errorf("Hex(Unhex(%q)) = %q, %d", s, octet.Hex(b), e)
		}
	}
}

func FuzzUnhex(f *testing.F) {
	for _, s := range []string{"-", "", "00ff", "0F", "0", "00--"} {
		f.Add(s)
	}
	f.Fuzz(func(t *testing.T, s string) {
		b, e := octet.Unhex(s)
		switch e {
		case api.OK:
			if octet.Hex(b) != s {
				t.Errorf("Hex(Unhex(%q)) = %q", s, octet.Hex(b))
			}
		case api.ErrLong:
			if len(b) != 0 || len(s) <= api.MaxText {
				t.Errorf("Unhex of %d bytes is ErrLong", len(s))
			}
		default:
			refused(t, fmt.Sprintf("Unhex(%q)", s), b, e, api.ErrHex)
		}
	})
}
