package batch_test

import (
	"bytes"
	"fmt"
	"maps"
	"slices"
	"testing"

	"rootcellar/api"
	"rootcellar/batch"
	"rootcellar/sha"
)

// The keys of the document's examples.
var (
	keyZ = api.Path{}
	keyO = api.Path{31: 1}
	keyX = api.Path{0: 64}
	keyY = api.Path{0: 128}
	keyN = api.Path(bytes.Repeat([]byte{0xff}, 32)) // the last key
)

// noise is a text of n bytes, no two neighbours alike.
func noise(n int) []byte {
	b := make([]byte, n)
	for i := range b {
		b[i] = byte(7*i + 3)
	}
	return b
}

// flip turns a key's bit.
func flip(k api.Path, d int) api.Path {
	k[d/8] ^= 1 << (7 - d%8)
	return k
}

// scattered keys are digests; near ones part at the last bits; a ladder's each part from the way of noughts one bit deeper.
func scattered(i int) api.Path { return api.Path(sha.Sum([]byte{byte(i), byte(i >> 8)})) }

func near(i int) api.Path { return api.Path{30: byte(i >> 8), 31: byte(i)} }

func ladder(i int) api.Path { return flip(api.Path{}, i) }

// kinds of keys, by name.
var kinds = map[string]func(int) api.Path{"scattered": scattered, "near": near, "a ladder": ladder}

// set is a write of a value of so many bytes, gone one that deletes.
func set(key api.Path, n int) api.Write { return api.Write{Key: key, Value: noise(n)} }

func gone(key api.Path) api.Write { return api.Write{Key: key, Gone: true} }

// pair is an entry with a value of so many bytes.
func pair(key api.Path, n int) api.Pair { return api.Pair{Key: key, Value: noise(n)} }

// many makes n writes with keys that a function tells.
func many(n int, key func(int) api.Path) []api.Write {
	var l []api.Write
	for i := range n {
		l = append(l, set(key(i), i%40))
	}
	return l
}

// deletes makes writes that delete the keys of others.
func deletes(l []api.Write) []api.Write {
	var next []api.Write
	for _, w := range l {
		next = append(next, gone(w.Key))
	}
	return next
}

// cloned tells writes in memory of their own.
func cloned(l []api.Write) []api.Write {
	var next []api.Write
	for _, w := range l {
		next = append(next, api.Write{Key: w.Key, Gone: w.Gone, Value: bytes.Clone(w.Value)})
	}
	return next
}

func clonedPairs(m []api.Pair) []api.Pair {
	var next []api.Pair
	for _, p := range m {
		next = append(next, api.Pair{Key: p.Key, Value: bytes.Clone(p.Value)})
	}
	return next
}

func sameWrite(a, b api.Write) bool {
	return a.Key == b.Key && a.Gone == b.Gone && bytes.Equal(a.Value, b.Value)
}

func samePair(a, b api.Pair) bool { return a.Key == b.Key && bytes.Equal(a.Value, b.Value) }

// rising tells the keys of a map by rising key.
func rising[T any](m map[api.Path]T) []api.Path {
	return slices.SortedFunc(maps.Keys(m), func(a, b api.Path) int { return bytes.Compare(a[:], b[:]) })
}

// ordered tells the writes in order in the chapter's words: what is written later takes the place of what was written ahead.
func ordered(l []api.Write) []api.Write {
	last := map[api.Path]api.Write{}
	for _, w := range l {
		if w.Gone {
			w.Value = nil
		}
		last[w.Key] = w
	}
	var next []api.Write
	for _, key := range rising(last) {
		next = append(next, last[key])
	}
	return next
}

// overridden tells a map overridden in the chapter's words.
func overridden(m []api.Pair, l []api.Write) []api.Pair {
	values := map[api.Path][]byte{}
	for _, p := range m {
		values[p.Key] = p.Value
	}
	for _, w := range l {
		delete(values, w.Key)
		if !w.Gone {
			values[w.Key] = w.Value
		}
	}
	var next []api.Pair
	for _, key := range rising(values) {
		next = append(next, api.Pair{Key: key, Value: values[key]})
	}
	return next
}

// tellsOrder holds Order and Keys against what they should answer, and sees that nothing that was handed in is changed.
func tellsOrder(t testing.TB, when string, l, want []api.Write) {
	t.Helper()
	before := cloned(l)
	if got := batch.Order(l); !slices.EqualFunc(got, want, sameWrite) {
		t.Errorf("%s: Order = %v, not %v", when, got, want)
	}
	if n := batch.Keys(l); n != len(want) {
		t.Errorf("%s: Keys = %d, not %d", when, n, len(want))
	}
	if !slices.EqualFunc(l, before, sameWrite) {
		t.Errorf("%s: what was handed in is changed: %v, not %v", when, l, before)
	}
}

// tellsMap holds Override against what it should answer, and sees that nothing that was handed in is changed.
func tellsMap(t testing.TB, when string, m []api.Pair, l []api.Write, want []api.Pair) {
	t.Helper()
	beforeMap, before := clonedPairs(m), cloned(l)
	if got := batch.Override(m, l); !slices.EqualFunc(got, want, samePair) {
		t.Errorf("%s: Override = %v, not %v", when, got, want)
	}
	if !slices.EqualFunc(l, before, sameWrite) || !slices.EqualFunc(m, beforeMap, samePair) {
		t.Errorf("%s: what was handed in is changed: %v, %v, not %v, %v", when, m, l, beforeMap, before)
	}
}

func TestOrder(t *testing.T) {
	z, o, x, y, n := set(keyZ, 1), set(keyO, 2), set(keyX, 3), set(keyY, 4), set(keyN, 5)
	noZ, noY := gone(keyZ), gone(keyY)
	withValue := api.Write{Key: keyZ, Gone: true, Value: noise(9)}
	for when, c := range map[string]struct{ l, want []api.Write }{
		"nil":                            {nil, nil},
		"none":                           {[]api.Write{}, nil},
		"one":                            {[]api.Write{x}, []api.Write{x}},
		"one that is gone":               {[]api.Write{noZ}, []api.Write{noZ}},
		"one that is gone, with a value": {[]api.Write{withValue}, []api.Write{noZ}},
		"a value of no bytes":            {[]api.Write{{Key: keyY, Value: []byte{}}}, []api.Write{{Key: keyY}}},
		"rising":                         {[]api.Write{z, o, x, y, n}, []api.Write{z, o, x, y, n}},
		"falling":                        {[]api.Write{n, y, x, o, z}, []api.Write{z, o, x, y, n}},
		"mixed":                          {[]api.Write{x, n, z, y, o}, []api.Write{z, o, x, y, n}},
		"one key, three times":           {[]api.Write{set(keyX, 9), set(keyX, 0), x}, []api.Write{x}},
		"one key, gone last":             {[]api.Write{z, set(keyZ, 7), noZ}, []api.Write{noZ}},
		"one key, gone first":            {[]api.Write{noZ, withValue, z}, []api.Write{z}},
		"one key, gone between":          {[]api.Write{set(keyZ, 8), noZ, z}, []api.Write{z}},
		"one key, the same twice":        {[]api.Write{y, y}, []api.Write{y}},
		"two keys in turn":               {[]api.Write{y, z, noY, withValue, set(keyY, 6), noZ, y}, []api.Write{noZ, y}},
		"gone among others":              {[]api.Write{noY, x, withValue, n, o}, []api.Write{noZ, o, x, noY, n}},
	} {
		tellsOrder(t, when, c.l, c.want)
	}
}

// No limit is asked for: as many writes as there are, values of any length.
func TestOrderOfMany(t *testing.T) {
	for name, key := range kinds {
		l := many(256, key)
		tellsOrder(t, name, l, ordered(l))
		slices.Reverse(l)
		tellsOrder(t, name, l, ordered(l))
		tellsOrder(t, name, append(l, deletes(l)...), ordered(deletes(l)))
		tellsOrder(t, name, append(deletes(l), l...), ordered(l))
	}
	var l []api.Write
	for i := range 3000 { // one key again and again: the last one counts, however many there are
		l = append(l, set(keyX, i%7))
	}
	tellsOrder(t, "one key", l, []api.Write{set(keyX, 2999%7)})
	tellsOrder(t, "one key, gone", append(l, gone(keyX)), []api.Write{gone(keyX)})
	long := []api.Write{set(keyY, 1024), set(keyZ, 1025), set(keyX, 70000)}
	tellsOrder(t, "long values", long, []api.Write{long[1], long[2], long[0]})
	tellsOrder(t, "long values, gone", []api.Write{{Key: keyY, Gone: true, Value: noise(70000)}}, []api.Write{gone(keyY)})
}

// Keys that are unlike in one bit alone stand in the order of their bytes.
func TestOrderGoesByEachBit(t *testing.T) {
	for d := range 256 {
		for _, key := range []api.Path{keyZ, keyN, scattered(d)} {
			a, b := set(key, 1), set(flip(key, d), 2)
			if key[d/8]>>(7-d%8)&1 == 1 {
				a, b = b, a
			}
			tellsOrder(t, fmt.Sprint("bit ", d), []api.Write{b, a}, []api.Write{a, b})
			tellsOrder(t, fmt.Sprint("bit ", d), []api.Write{a, b}, []api.Write{a, b})
		}
	}
}

// chance tells numbers that no pattern is seen in.
type chance uint32

func (c *chance) next() byte {
	*c = *c*1664525 + 1013904223
	return byte(*c >> 24)
}

// writes tells so many, of keys of a list, some of them more than once.
func (c *chance) writes(n int, keys []api.Path) []api.Write {
	var l []api.Write
	for range n {
		l = append(l, api.Write{Key: keys[int(c.next())%len(keys)], Gone: c.next() < 100, Value: noise(int(c.next()) % 5)})
	}
	return l
}

func (c *chance) pairs(n int, keys []api.Path) []api.Pair {
	var m []api.Pair
	for _, w := range c.writes(n, keys) {
		m = append(m, api.Pair{Key: w.Key, Value: w.Value})
	}
	return m
}

// pool are keys that part at the first bits, in the midst, and at the last ones.
func pool() []api.Path {
	var l []api.Path
	for i := range 8 {
		l = append(l, api.Path{0: byte(i << 5)})
	}
	for i := 1; i < 4; i++ {
		l = append(l, api.Path{31: byte(i)}, api.Path{0: 160, 31: byte(i)}, api.Path{15: byte(i)})
	}
	return append(l, keyN, flip(keyN, 255), flip(keyN, 100))
}

func TestOrderAndOverrideOfAnyWrites(t *testing.T) {
	numbers := chance(5)
	for i := range 2000 {
		keys := pool()[:1+int(numbers.next())%len(pool())]
		l, m := numbers.writes(int(numbers.next())%40, keys), numbers.pairs(int(numbers.next())%30, pool())
		when := fmt.Sprint("list ", i)
		tellsOrder(t, when, l, ordered(l))
		tellsMap(t, when, m, l, overridden(m, l))
		again := batch.Order(l)
		tellsOrder(t, when+", in order already", again, again)
		tellsMap(t, when+", in order already", m, again, overridden(m, l))
	}
}

func TestOverride(t *testing.T) {
	z, x, y, n := pair(keyZ, 1), pair(keyX, 2), pair(keyY, 3), pair(keyN, 4)
	for when, c := range map[string]struct {
		m    []api.Pair
		l    []api.Write
		want []api.Pair
	}{
		"nothing by nothing":            {nil, nil, nil},
		"none by none":                  {[]api.Pair{}, []api.Write{}, nil},
		"by nothing":                    {[]api.Pair{z, y}, nil, []api.Pair{z, y}},
		"by nothing, falling":           {[]api.Pair{n, y, x, z}, nil, []api.Pair{z, x, y, n}},
		"nothing by a write":            {nil, []api.Write{set(keyY, 3)}, []api.Pair{y}},
		"nothing by one that is gone":   {nil, []api.Write{gone(keyY)}, nil},
		"another value":                 {[]api.Pair{z, y}, []api.Write{set(keyY, 9)}, []api.Pair{z, pair(keyY, 9)}},
		"a value of no bytes":           {[]api.Pair{z}, []api.Write{{Key: keyZ}}, []api.Pair{pair(keyZ, 0)}},
		"the same value":                {[]api.Pair{z, y}, []api.Write{set(keyY, 3)}, []api.Pair{z, y}},
		"one gone":                      {[]api.Pair{z, x, y}, []api.Write{gone(keyX)}, []api.Pair{z, y}},
		"one gone, with a value":        {[]api.Pair{z, x}, []api.Write{{Key: keyX, Gone: true, Value: noise(7)}}, []api.Pair{z}},
		"gone that was not there":       {[]api.Pair{z, y}, []api.Write{gone(keyX), gone(keyN)}, []api.Pair{z, y}},
		"all gone":                      {[]api.Pair{z, x, y}, []api.Write{gone(keyY), gone(keyZ), gone(keyX)}, nil},
		"between":                       {[]api.Pair{z, n}, []api.Write{set(keyY, 3), set(keyX, 2)}, []api.Pair{z, x, y, n}},
		"around":                        {[]api.Pair{y, x}, []api.Write{set(keyN, 4), set(keyZ, 1)}, []api.Pair{z, x, y, n}},
		"written, then gone":            {[]api.Pair{z}, []api.Write{set(keyZ, 5), gone(keyZ)}, nil},
		"gone, then written":            {[]api.Pair{z}, []api.Write{gone(keyZ), set(keyZ, 5)}, []api.Pair{pair(keyZ, 5)}},
		"entries of one key":            {[]api.Pair{pair(keyZ, 8), y, pair(keyZ, 9), z}, nil, []api.Pair{z, y}},
		"entries of one key, written":   {[]api.Pair{pair(keyZ, 8), z}, []api.Write{set(keyZ, 6)}, []api.Pair{pair(keyZ, 6)}},
		"entries of one key, gone":      {[]api.Pair{pair(keyZ, 8), z, y}, []api.Write{gone(keyZ)}, []api.Pair{y}},
		"entries of one key, untouched": {[]api.Pair{pair(keyX, 8), z, x}, []api.Write{set(keyY, 3), gone(keyN)}, []api.Pair{z, x, y}},
	} {
		tellsMap(t, when, c.m, c.l, c.want)
	}
}

// No limit is asked for here either.
func TestOverrideOfMany(t *testing.T) {
	var m []api.Pair
	for i := range 5000 {
		m = append(m, pair(scattered(i), i%9))
	}
	l := many(300, func(i int) api.Path { return scattered(4900 + i) })
	tellsMap(t, "many", m, l, overridden(m, l))
	tellsMap(t, "many, gone", m, deletes(l), overridden(m, deletes(l)))
	tellsMap(t, "a long value", nil, []api.Write{set(keyZ, 70000)}, []api.Pair{pair(keyZ, 70000)})
	tellsMap(t, "a long value that was there", []api.Pair{pair(keyZ, 70000)}, nil, []api.Pair{pair(keyZ, 70000)})
}

// spoil writes over a text, its spare room too.
func spoil(b []byte) {
	b = b[:cap(b)]
	for i := range b {
		b[i] ^= 0xa5
	}
}

// spacious tells writes in a list with spare room, their values with spare room, too; and all of the memory that is theirs.
func spacious(l []api.Write) ([]api.Write, []api.Write) {
	whole := make([]api.Write, len(l)+3)
	for i := range whole {
		whole[i] = api.Write{Key: keyN, Value: noise(11)}
		if i < len(l) {
			value := append(make([]byte, 0, len(l[i].Value)+8), l[i].Value...)
			copy(value[len(value):cap(value)], "nothing.")
			whole[i] = api.Write{Key: l[i].Key, Gone: l[i].Gone, Value: value}
		}
	}
	return whole[:len(l)], whole
}

func spaciousPairs(m []api.Pair) ([]api.Pair, []api.Pair) {
	var l []api.Write
	for _, p := range m {
		l = append(l, api.Write{Key: p.Key, Value: p.Value})
	}
	_, writes := spacious(l)
	var whole []api.Pair
	for _, w := range writes {
		whole = append(whole, api.Pair{Key: w.Key, Value: w.Value})
	}
	return whole[:len(m)], whole
}

// texts tells all that is in the memory of writes, spare room of values and all.
func texts(l []api.Write) string {
	var b bytes.Buffer
	for _, w := range l {
		fmt.Fprintf(&b, "%x %t %x %d\n", w.Key, w.Gone, w.Value[:cap(w.Value)], len(w.Value))
	}
	return b.String()
}

func textsOfPairs(m []api.Pair) string {
	var l []api.Write
	for _, p := range m {
		l = append(l, api.Write{Key: p.Key, Value: p.Value})
	}
	return texts(l)
}

// own sees that of lists that were answered each has memory of its own: what is written over in one, its spare room too, is seen in no other.
func own(t testing.TB, when string, values [][]byte) {
	t.Helper()
	for i, v := range values {
		var others []string
		for j, o := range values {
			if j != i {
				others = append(others, string(o[:cap(o)]))
			}
		}
		spoil(v)
		for j, o := range values {
			if j == i {
				continue
			}
			if others[0] != string(o[:cap(o)]) {
				t.Errorf("%s: the value %d shares memory with the value %d", when, j, i)
			}
			others = others[1:]
		}
		spoil(v) // twice is nothing
	}
}

func values(l []api.Write) (all [][]byte) {
	for _, w := range l[:cap(l)] {
		all = append(all, w.Value)
	}
	return all
}

func valuesOfPairs(m []api.Pair) (all [][]byte) {
	for _, p := range m[:cap(m)] {
		all = append(all, p.Value)
	}
	return all
}

// What Order was handed may be written over behind it, and what it answered, without that anything else is changed.
func TestOrderHasMemoryOfItsOwn(t *testing.T) {
	for when, l := range map[string][]api.Write{
		"one":     {set(keyX, 5)},
		"rising":  {set(keyZ, 3), set(keyX, 5), gone(keyY)},
		"mixed":   {set(keyY, 30), set(keyZ, 0), {Key: keyX, Gone: true, Value: noise(4)}, set(keyY, 6), set(keyO, 5)},
		"one key": {set(keyY, 30), set(keyY, 3), set(keyY, 4)},
		"many":    many(64, scattered),
	} {
		in, whole := spacious(l)
		before := texts(whole)
		got := batch.Order(in)
		if texts(whole) != before {
			t.Errorf("%s: Order changes what it was handed, or its spare room", when)
		}
		want := ordered(cloned(l))
		for i := range whole {
			spoil(whole[i].Value)
			whole[i].Key, whole[i].Gone = flip(whole[i].Key, 3), !whole[i].Gone
		}
		if !slices.EqualFunc(got, want, sameWrite) {
			t.Errorf("%s: what Order was handed is in what it answered: %v, not %v", when, got, want)
		}
		own(t, when, values(got))
		in, whole = spacious(l)
		before = texts(whole)
		one, two := batch.Order(in), batch.Order(in)
		for i := range one[:cap(one)] {
			w := &one[:cap(one)][i]
			spoil(w.Value)
			*w = api.Write{Key: flip(w.Key, 7), Gone: !w.Gone, Value: noise(2)}
		}
		if texts(whole) != before || !slices.EqualFunc(two, want, sameWrite) {
			t.Errorf("%s: what Order answered shares memory with what it was handed, or with another answer", when)
		}
	}
}

func TestOverrideHasMemoryOfItsOwn(t *testing.T) {
	for when, c := range map[string]struct {
		m []api.Pair
		l []api.Write
	}{
		"no writes":         {[]api.Pair{pair(keyZ, 3), pair(keyY, 4)}, nil},
		"no entries":        {nil, []api.Write{set(keyZ, 3), set(keyY, 4)}},
		"both":              {[]api.Pair{pair(keyZ, 3), pair(keyX, 20), pair(keyY, 4)}, []api.Write{set(keyX, 5), gone(keyY), set(keyN, 6)}},
		"of one key":        {[]api.Pair{pair(keyZ, 3), pair(keyZ, 4)}, []api.Write{set(keyY, 5), set(keyY, 7)}},
		"nothing is left":   {[]api.Pair{pair(keyZ, 3)}, []api.Write{{Key: keyZ, Gone: true, Value: noise(4)}}},
		"many, by many":     {overridden(nil, many(50, scattered)), many(60, near)},
		"in falling order":  {[]api.Pair{pair(keyN, 9), pair(keyO, 8), pair(keyZ, 3)}, []api.Write{set(keyY, 2), set(keyX, 1)}},
		"values of no byte": {[]api.Pair{{Key: keyZ, Value: []byte{}}, {Key: keyO}}, []api.Write{{Key: keyY, Value: []byte{}}}},
	} {
		m, wholeMap := spaciousPairs(c.m)
		l, whole := spacious(c.l)
		beforeMap, before := textsOfPairs(wholeMap), texts(whole)
		one, two := batch.Override(m, l), batch.Override(m, l)
		if textsOfPairs(wholeMap) != beforeMap || texts(whole) != before {
			t.Errorf("%s: Override changes what it was handed, or its spare room", when)
		}
		own(t, when, valuesOfPairs(one))
		for i := range one[:cap(one)] {
			p := &one[:cap(one)][i]
			spoil(p.Value)
			*p = api.Pair{Key: flip(p.Key, 7), Value: noise(2)}
		}
		if textsOfPairs(wholeMap) != beforeMap || texts(whole) != before {
			t.Errorf("%s: what Override answered shares memory with what it was handed", when)
		}
		want := clonedPairs(overridden(c.m, c.l))
		for i := range whole {
			spoil(whole[i].Value)
			whole[i] = api.Write{Key: flip(whole[i].Key, 2), Gone: !whole[i].Gone}
		}
		for i := range wholeMap {
			spoil(wholeMap[i].Value)
			wholeMap[i] = api.Pair{Key: flip(wholeMap[i].Key, 2)}
		}
		if !slices.EqualFunc(two, want, samePair) {
			t.Errorf("%s: Override = %v behind it, not %v", when, two, want)
		}
	}
}

func FuzzOrder(f *testing.F) {
	f.Add([]byte{0, 0, 0, 1, 1, 2, 0, 1, 3})
	f.Add(noise(90))
	f.Fuzz(func(t *testing.T, b []byte) {
		var l []api.Write
		keys := pool()
		for ; len(b) >= 3; b = b[3:] {
			l = append(l, api.Write{Key: keys[int(b[0])%len(keys)], Gone: b[1]%2 == 1, Value: noise(int(b[2]) % 9)})
		}
		half := len(l) / 2
		var m []api.Pair
		for _, w := range l[:half] {
			m = append(m, api.Pair{Key: w.Key, Value: w.Value})
		}
		tellsOrder(t, "fuzz", l, ordered(l))
		tellsMap(t, "fuzz", m, l[half:], overridden(m, l[half:]))
	})
}
