package path_test

import (
	"bytes"
	"math"
	"math/big"
	"slices"
	"testing"

	"rootcellar/api"
	"rootcellar/path"
)

// noise is a text of n bytes, no two neighbours alike.
func noise(n int) []byte {
	b := make([]byte, n)
	for i := range b {
		b[i] = byte(7*i + 3)
	}
	return b
}

// all tells the key whose bytes are all x.
func all(x byte) (p api.Path) {
	for i := range p {
		p[i] = x
	}
	return p
}

// ordinary is a key with all kinds of bytes.
func ordinary() api.Path { return api.Path(noise(32)) }

// few are keys at the edges and ordinary ones.
func few() []api.Path {
	return []api.Path{{}, {31: 1}, {128}, {64}, {160}, {15: 255, 16: 128}, ordinary(), all(0x55), all(0xaa), all(255), {0: 255, 31: 254}}
}

// noDepths are numbers that are no bit's and no depth's.
var noDepths = []int{-1, -2, -8, -255, -256, -257, 257, 258, 264, 512, 1 << 20, -1 << 20, 1 << 40, -1 << 40, math.MaxInt, math.MaxInt - 1, math.MinInt, math.MinInt + 1}

// digits tells a key's bits as 256 zeros and ones, by another way than the program's: as a great number's.
func digits(p api.Path) string {
	s := new(big.Int).SetBytes(p[:]).Text(2)
	for len(s) < 256 {
		s = "0" + s
	}
	return s
}

// ofDigits tells the key that digits tells so.
func ofDigits(t *testing.T, s string) (p api.Path) {
	t.Helper()
	n, ok := new(big.Int).SetString(s, 2)
	if !ok || len(s) != 256 {
		t.Fatalf("%d digits %q", len(s), s)
	}
	n.FillBytes(p[:])
	return p
}

// same tells how many digits from the front on are the same.
func same(a, b string) int {
	for i := range a {
		if a[i] != b[i] {
			return i
		}
	}
	return len(a)
}

func told(t *testing.T, call string, d int, got api.Path, e api.Errno, want api.Path) {
	t.Helper()
	if got != want || e != api.OK {
		t.Errorf("%s at %d = %x, %d, not %x, OK", call, d, got, e, want)
	}
}

// refused holds an answer against rule 2: an error, and the zero key beside it.
func refused(t *testing.T, call string, d int, got api.Path, e, want api.Errno) {
	t.Helper()
	if got != (api.Path{}) || e != want {
		t.Errorf("%s at %d = %x, %d, not the zero key, %d", call, d, got, e, want)
	}
}

func TestExamples(t *testing.T) {
	k := api.Path{160}
	p, e := path.Of(make([]byte, 31))
	refused(t, "Of of bytes", 31, p, e, api.ErrKey)
	for d, want := range map[int]int{0: 1, 1: 0, 255: 0, 256: -1} {
		if b := path.Bit(k, d); b != want {
			t.Errorf("Bit(k, %d) = %d, not %d", d, b, want)
		}
	}
	p, e = path.Flip(k, 1)
	told(t, "Flip", 1, p, e, api.Path{224})
	p, e = path.Flip(k, 256)
	refused(t, "Flip", 256, p, e, api.ErrArg)
	p, _ = path.Flip(k, 2)
	if own, other := path.Common(k, k), path.Common(k, p); own != 256 || other != 2 {
		t.Errorf("Common(k, k), Common(k, Flip(k, 2)) = %d, %d", own, other)
	}
	p, e = path.First(k, 2)
	told(t, "First", 2, p, e, api.Path{128})
	p, e = path.Last(k, 2)
	want := all(255)
	want[0] = 191
	told(t, "Last", 2, p, e, want)
	if p, ok := path.Next(api.Path{}); p != (api.Path{31: 1}) || !ok {
		t.Errorf("Next of the zero key = %x, %v", p, ok)
	}
	end, _ := path.Last(k, 0)
	if p, ok := path.Next(end); p != (api.Path{}) || ok {
		t.Errorf("Next of Last(k, 0) = %x, %v", p, ok)
	}
	p, _ = path.Flip(k, 3)
	if !path.Under(k, p, 3) || path.Under(k, p, 4) || path.Under(k, k, 257) {
		t.Error("Under(k, Flip(k, 3), 3), Under(k, Flip(k, 3), 4), Under(k, k, 257)", path.Under(k, p, 3), path.Under(k, p, 4), path.Under(k, k, 257))
	}
}

func TestOfTakesJust32Bytes(t *testing.T) {
	for n := range 300 {
		p, e := path.Of(noise(n))
		if n == 32 {
			told(t, "Of of bytes", n, p, e, ordinary())
			continue
		}
		refused(t, "Of of bytes", n, p, e, api.ErrKey)
	}
	p, e := path.Of(nil)
	refused(t, "Of of nil", 0, p, e, api.ErrKey)
	p, e = path.Of(noise(100_000))
	refused(t, "Of of bytes", 100_000, p, e, api.ErrKey)
}

// What is behind a slice's end is no part of it: not of one of 31 bytes, not of one of 32.
func TestOfLooksAtNoSpareRoom(t *testing.T) {
	room := noise(64)
	p, e := path.Of(room[:31])
	refused(t, "Of of bytes", 31, p, e, api.ErrKey)
	p, e = path.Of(room[:32])
	told(t, "Of of bytes", 32, p, e, ordinary())
	if !bytes.Equal(room, noise(64)) {
		t.Errorf("Of has changed what it was handed: %x", room)
	}
	clear(room)
	if p != ordinary() {
		t.Error("Of's key is the bytes that it was handed")
	}
}

func TestBytes(t *testing.T) {
	for _, p := range few() {
		b := path.Bytes(p)
		if len(b) != 32 || !bytes.Equal(b, p[:]) {
			t.Errorf("Bytes(%x) = %x", p, b)
		}
		back, e := path.Of(b)
		told(t, "Of of Bytes", 32, back, e, p)
	}
}

func TestBytesAreNewMemory(t *testing.T) {
	p := ordinary()
	one, two := path.Bytes(p), path.Bytes(p)
	one = one[:cap(one)]
	for i := range one {
		one[i] ^= 0xee
	}
	if p != ordinary() || !bytes.Equal(two, noise(32)) || !bytes.Equal(path.Bytes(p), noise(32)) {
		t.Error("bytes that were answered are shared")
	}
	_ = append(two[:31], 1, 2, 3)
	if p != ordinary() {
		t.Error("an append to bytes that were answered has changed the key")
	}
}

func TestBit(t *testing.T) {
	for _, p := range few() {
		s := digits(p)
		for d := range 256 {
			if b := path.Bit(p, d); b != int(s[d]-'0') {
				t.Errorf("Bit(%x, %d) = %d", p, d, b)
			}
		}
		for _, d := range append(noDepths, 256) {
			if b := path.Bit(p, d); b != -1 {
				t.Errorf("Bit(%x, %d) = %d, not -1", p, d, b)
			}
		}
	}
}

// The words of the document: bit d has the weight 2^(7 - d modulo 8) in the byte d / 8.
func TestOneBitAlone(t *testing.T) {
	for d := range 256 {
		var p api.Path
		p[d/8] = []byte{128, 64, 32, 16, 8, 4, 2, 1}[d%8]
		for other := range 256 {
			want := 0
			if other == d {
				want = 1
			}
			if b := path.Bit(p, other); b != want {
				t.Errorf("of the bit %d alone: Bit at %d = %d", d, other, b)
			}
		}
	}
}

func TestCommon(t *testing.T) {
	for _, a := range few() {
		for _, b := range few() {
			if n := path.Common(a, b); n != same(digits(a), digits(b)) {
				t.Errorf("Common(%x, %x) = %d, not %d", a, b, n, same(digits(a), digits(b)))
			}
		}
	}
}

// Just the first bit that is unlike counts, whatever stands behind it.
func TestCommonAtEveryBit(t *testing.T) {
	for _, p := range few() {
		for d := range 256 {
			var one, rest api.Path
			one[d/8] = 1 << (7 - d%8)
			for i := range one {
				rest[i] = p[i] ^ one[i]
			}
			if n, back := path.Common(p, rest), path.Common(rest, p); n != d || back != d {
				t.Errorf("Common of %x and one unlike in bit %d = %d, %d", p, d, n, back)
			}
			for i := d/8 + 1; i < 32; i++ {
				rest[i] = ^rest[i]
			}
			if n := path.Common(p, rest); n != d {
				t.Errorf("Common of %x and one unlike from bit %d on = %d", p, d, n)
			}
		}
		if n := path.Common(p, p); n != 256 {
			t.Errorf("Common of %x with itself = %d", p, n)
		}
	}
}

func TestCompare(t *testing.T) {
	for _, a := range few() {
		for _, b := range few() {
			if c := path.Compare(a, b); c != bytes.Compare(a[:], b[:]) {
				t.Errorf("Compare(%x, %x) = %d", a, b, c)
			}
		}
	}
	if c := path.Compare(api.Path{1}, api.Path{0, 255, 255}); c != 1 {
		t.Errorf("the first byte is not the heaviest: %d", c)
	}
	if c := path.Compare(api.Path{127}, api.Path{128}); c != -1 {
		t.Errorf("bytes are not compared without a sign: %d", c)
	}
}

func TestFlip(t *testing.T) {
	for _, p := range few() {
		s := digits(p)
		for d := range 256 {
			turned := map[byte]string{'0': "1", '1': "0"}[s[d]]
			got, e := path.Flip(p, d)
			told(t, "Flip", d, got, e, ofDigits(t, s[:d]+turned+s[d+1:]))
		}
		for _, d := range append(noDepths, 256) {
			got, e := path.Flip(p, d)
			refused(t, "Flip", d, got, e, api.ErrArg)
		}
	}
}

func TestFirstAndLast(t *testing.T) {
	zeros, ones := digits(api.Path{}), digits(all(255))
	for _, p := range few() {
		s := digits(p)
		for d := range 257 {
			got, e := path.First(p, d)
			told(t, "First", d, got, e, ofDigits(t, s[:d]+zeros[d:]))
			got, e = path.Last(p, d)
			told(t, "Last", d, got, e, ofDigits(t, s[:d]+ones[d:]))
		}
		for _, d := range noDepths {
			got, e := path.First(p, d)
			refused(t, "First", d, got, e, api.ErrArg)
			got, e = path.Last(p, d)
			refused(t, "Last", d, got, e, api.ErrArg)
		}
	}
}

func TestNext(t *testing.T) {
	for _, p := range few() {
		sum := new(big.Int).SetBytes(p[:])
		sum.Add(sum, big.NewInt(1))
		got, ok := path.Next(p)
		if sum.BitLen() > 256 {
			if got != (api.Path{}) || ok {
				t.Errorf("Next(%x) = %x, %v", p, got, ok)
			}
			continue
		}
		var want api.Path
		sum.FillBytes(want[:])
		if got != want || !ok {
			t.Errorf("Next(%x) = %x, %v, not %x", p, got, ok, want)
		}
	}
}

// One is carried over every number of bytes 255.
func TestNextCarries(t *testing.T) {
	for n := range 32 {
		p := api.Path{7}
		want := p
		for i := 31; i > 31-n; i-- {
			p[i] = 255
		}
		want[31-n]++
		if got, ok := path.Next(p); got != want || !ok {
			t.Errorf("Next(%x) = %x, %v, not %x", p, got, ok, want)
		}
	}
}

func TestUnder(t *testing.T) {
	for _, p := range few() {
		for _, top := range few() {
			n := same(digits(p), digits(top))
			for d := range 257 {
				if got := path.Under(p, top, d); got != (d <= n) {
					t.Errorf("Under(%x, %x, %d) = %v", p, top, d, got)
				}
			}
			for _, d := range noDepths {
				if path.Under(p, top, d) {
					t.Errorf("Under(%x, %x, %d)", p, top, d)
				}
			}
		}
	}
}

// near are keys round each border of a top at d, where what follows could fail first.
func near(top api.Path, d int) []api.Path {
	keys := few()
	first, _ := path.First(top, d)
	last, _ := path.Last(top, d)
	keys = append(keys, top, first, last)
	if n, ok := path.Next(last); ok {
		keys = append(keys, n)
	}
	if first != (api.Path{}) {
		var p api.Path
		n := new(big.Int).SetBytes(first[:])
		n.Sub(n, big.NewInt(1)).FillBytes(p[:])
		keys = append(keys, p)
	}
	return keys
}

func TestTheKeysUnderATopGoFromFirstToLast(t *testing.T) {
	for _, top := range few() {
		for d := range 257 {
			first, _ := path.First(top, d)
			last, _ := path.Last(top, d)
			for _, p := range near(top, d) {
				between := path.Compare(first, p) <= 0 && path.Compare(p, last) <= 0
				if path.Under(p, top, d) != between {
					t.Errorf("%x under %x at %d: %v, between First and Last: %v", p, top, d, !between, between)
				}
			}
		}
	}
}

// follows holds two keys against what follows of the promises.
func follows(t *testing.T, a, b api.Path) {
	t.Helper()
	n := path.Common(a, b)
	if n == 256 {
		if a != b || path.Compare(a, b) != 0 || path.Compare(b, a) != 0 {
			t.Errorf("%x and %x have all bits in common", a, b)
		}
		return
	}
	x, y := path.Bit(a, n), path.Bit(b, n)
	if x == y || path.Compare(a, b) != x-y || path.Compare(b, a) != y-x {
		t.Errorf("%x and %x: bits %d and %d at %d, Compare %d", a, b, x, y, n, path.Compare(a, b))
	}
	for d := range n {
		if path.Bit(a, d) != path.Bit(b, d) {
			t.Errorf("%x and %x: unlike at %d, ahead of %d", a, b, d, n)
		}
	}
	if next, ok := path.Next(a); ok {
		if path.Compare(a, next) != -1 || path.Compare(a, b) == -1 && path.Compare(next, b) == 1 {
			t.Errorf("Next(%x) = %x: not the least one behind it, %x", a, next, b)
		}
	} else if path.Compare(a, b) == -1 {
		t.Errorf("nothing behind %x, but %x is", a, b)
	}
}

func TestWhatFollowsOfTwoKeys(t *testing.T) {
	for _, a := range few() {
		for _, b := range few() {
			follows(t, a, b)
		}
		for d := range 256 {
			b, _ := path.Flip(a, d)
			follows(t, a, b)
			follows(t, b, a)
		}
	}
}

func TestFlipTwiceIsNothing(t *testing.T) {
	for _, p := range few() {
		for d := range 256 {
			once, _ := path.Flip(p, d)
			twice, e := path.Flip(once, d)
			told(t, "Flip twice", d, twice, e, p)
			if once == p {
				t.Errorf("Flip once at %d is nothing", d)
			}
		}
	}
}

// Keys put in order by Compare stand as their digits do.
func TestOrderIsThatOfDigits(t *testing.T) {
	var keys []api.Path
	for i := range 200 {
		keys = append(keys, api.Path(noise(232)[i:]))
	}
	keys = append(keys, few()...)
	slices.SortFunc(keys, path.Compare)
	for i := 1; i < len(keys); i++ {
		if digits(keys[i-1]) > digits(keys[i]) {
			t.Errorf("%x stands ahead of %x", keys[i-1], keys[i])
		}
	}
}

func FuzzKeys(f *testing.F) {
	f.Add(noise(32), noise(32), 0)
	f.Add(noise(31), noise(33), -1)
	f.Add(make([]byte, 32), bytes.Repeat([]byte{255}, 32), 255)
	f.Add(noise(40)[8:], noise(32), 256)
	f.Fuzz(func(t *testing.T, one, two []byte, d int) {
		a, e := path.Of(one)
		if (e == api.ErrKey) != (len(one) != 32) {
			t.Fatal(len(one), e)
		}
		b, _ := path.Of(two)
		follows(t, a, b)
		first, e := path.First(b, d)
		last, _ := path.Last(b, d)
		if (e == api.OK) != (0 <= d && d <= 256) {
			t.Fatal(d, e)
		}
		between := e == api.OK && path.Compare(first, a) <= 0 && path.Compare(a, last) <= 0
		if path.Under(a, b, d) != between {
			t.Errorf("%x under %x at %d", a, b, d)
		}
		once, e := path.Flip(a, d)
		if (e == api.OK) != (path.Bit(a, d) >= 0) {
			t.Fatal(d, e)
		}
		if e == api.OK && (path.Common(a, once) != d || path.Bit(a, d)+path.Bit(once, d) != 1) {
			t.Errorf("Flip(%x, %d) = %x", a, d, once)
		}
	})
}
