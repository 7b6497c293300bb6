package audit_test

import (
	"maps"
	"math"
	"slices"
	"testing"

	"rootcellar/api"
	"rootcellar/audit"
	"rootcellar/batch"
	"rootcellar/drop"
	"rootcellar/node"
	"rootcellar/put"
	"rootcellar/store"
)

// row is all that a store tells of a handle.
type row struct {
	handle, depth, left, right, size, count, held int
	kind                                          api.Kind
	key                                           api.Path
	value                                         string
	digest                                        api.Hash
}

// rows tells all of a store's nodes, by rising handle.
func rows(s *store.Store) []row {
	var l []row
	for _, h := range s.Handles() {
		left, right := s.Sides(h)
		l = append(l, row{
			handle: h, depth: s.Depth(h), left: left, right: right, size: s.Size(h), count: s.Count(h), held: s.Held(h),
			kind: s.Kind(h), key: s.Key(h), value: string(s.Value(h)), digest: s.Digest(h),
		})
	}
	return l
}

// same sees that a store is what it was.
func same(t testing.TB, when string, s *store.Store, before []row) {
	t.Helper()
	if after := rows(s); !slices.Equal(after, before) {
		t.Fatalf("%s: the store is another one behind it: of %d nodes\n%v\nnot\n%v", when, len(after), after, before)
	}
}

// answers are those of all functions to one list of roots.
type answers struct {
	findings []api.Finding
	reached  []int
	lost     []int
	shared   int
}

func (a answers) equal(b answers) bool {
	return slices.Equal(a.findings, b.findings) && slices.Equal(a.reached, b.reached) && slices.Equal(a.lost, b.lost) && a.shared == b.shared
}

// ask asks all functions that take a list, and sees that they answer one error.
func ask(t testing.TB, when string, s *store.Store, roots []int, want api.Errno) answers {
	t.Helper()
	findings, check := audit.Check(s, roots)
	reached, reach := audit.Reached(s, roots)
	lost, lose := audit.Lost(s, roots)
	shared, share := audit.Shared(s, roots)
	if check != want || reach != want || lose != want || share != want {
		t.Fatalf("%s: of %v Check answers %d, Reached %d, Lost %d, Shared %d, not %d", when, roots, check, reach, lose, share, want)
	}
	return answers{findings, reached, lost, shared}
}

// spacious tells a list with spare room behind it, and the whole of it.
func spacious(l []int) (list, whole []int) {
	whole = append(slices.Clone(l), 1, -5, 99, math.MaxInt)
	return whole[:len(l)], slices.Clip(whole)
}

// refuses asks for what all functions refuse, and sees that nothing else is told and nothing changed.
func refuses(t testing.TB, when string, s *store.Store, roots []int, want api.Errno) {
	t.Helper()
	before := rows(s)
	list, whole := spacious(roots)
	handed := slices.Clone(whole)
	if a := ask(t, when, s, list, want); !a.equal(answers{}) {
		t.Errorf("%s: of %v refused is told %v", when, roots, a)
	}
	if len(roots) == 1 {
		if ok, e := audit.Sound(s, roots[0]); ok || e != want {
			t.Errorf("%s: Sound(%d) = %t, %d, not %d", when, roots[0], ok, e, want)
		}
	}
	same(t, when, s, before)
	if !slices.Equal(whole, handed) {
		t.Errorf("%s: the list of roots is changed", when)
	}
}

// reachedBy tells in the chapter's words what roots reach.
func reachedBy(s *store.Store, roots []int) map[int]bool {
	in := map[int]bool{}
	var down func(int)
	down = func(h int) {
		if h == 0 || in[h] {
			return
		}
		in[h] = true
		left, right := s.Sides(h)
		down(left)
		down(right)
	}
	for _, h := range roots {
		down(h)
	}
	return in
}

// listed tells how often a handle stands in a list.
func listed(roots []int, h int) int {
	n := 0
	for _, root := range roots {
		if root == h {
			n++
		}
	}
	return n
}

// sidesOf tells of how many of the store's nodes that are reached, or that are not, each handle is a side.
func sidesOf(s *store.Store, in map[int]bool, reached bool) map[int]int {
	sides := map[int]int{}
	for _, h := range s.Handles() {
		if in[h] == reached {
			left, right := s.Sides(h)
			sides[left]++
			sides[right]++
		}
	}
	return sides
}

// defined tells all answers in the chapter's words.
func defined(s *store.Store, roots []int) answers {
	var a answers
	in := reachedBy(s, roots)
	sides := sidesOf(s, in, true)
	for _, h := range s.Handles() {
		want := sides[h] + listed(roots, h)
		if want != s.Count(h) {
			a.findings = append(a.findings, api.Finding{Handle: h, Want: want, Have: s.Count(h)})
		}
		if !in[h] {
			a.lost = append(a.lost, h)
			continue
		}
		a.reached = append(a.reached, h)
		if want > 1 {
			a.shared++
		}
	}
	return a
}

func sharedBy(s *store.Store, roots []int) int { return defined(s, roots).shared }

// audited asks for what may be asked for, and holds all answers against the chapter's words.
func audited(t testing.TB, when string, s *store.Store, roots []int) {
	t.Helper()
	before, want := rows(s), defined(s, roots)
	list, whole := spacious(roots)
	handed := slices.Clone(whole)
	got := ask(t, when, s, list, api.OK)
	if !got.equal(want) {
		t.Fatalf("%s: of %v is told\n%v\nnot\n%v", when, roots, got, want)
	}
	if !slices.Equal(whole, handed) {
		t.Fatalf("%s: the list of roots is changed, or its spare room", when)
	}
	again := ask(t, when, s, list, api.OK)
	spoil(whole) // it is not looked at later
	if !got.equal(want) || !again.equal(want) {
		t.Fatalf("%s: what is told shares memory with the list of roots", when)
	}
	spoil(got.reached) // one by one, so that no two of them share memory
	if !slices.Equal(got.lost, want.lost) || !slices.Equal(got.findings, want.findings) || !again.equal(want) {
		t.Fatalf("%s: Reached's list shares memory with another one", when)
	}
	spoil(got.lost)
	spoil(got.findings)
	if !again.equal(want) || !ask(t, when, s, roots, api.OK).equal(want) {
		t.Fatalf("%s: what is told is another one when answers are written over", when)
	}
	same(t, when, s, before)
	follows(t, when, s, roots, want)
}

// spoil writes over a list, its spare room too.
func spoil[T any](l []T) { clear(l[:cap(l)]) }

// follows holds answers against what follows of the chapter's words.
func follows(t testing.TB, when string, s *store.Store, roots []int, a answers) {
	t.Helper()
	all := append(slices.Clone(a.reached), a.lost...)
	slices.Sort(all)
	if !slices.Equal(all, s.Handles()) || !slices.IsSorted(a.reached) || !slices.IsSorted(a.lost) {
		t.Fatalf("%s: of %v are reached %v, lost %v; the store has %v", when, roots, a.reached, a.lost, s.Handles())
	}
	found := map[int]api.Finding{}
	for i, f := range a.findings {
		found[f.Handle] = f
		if f.Want == f.Have || i > 0 && f.Handle <= a.findings[i-1].Handle {
			t.Fatalf("%s: of %v are found %v", when, roots, a.findings)
		}
	}
	others := sidesOf(s, reachedBy(s, roots), false)
	for _, h := range s.Handles() {
		more := s.Held(h) - listed(roots, h) // how much more often callers hold it than the list says
		f := found[h]
		if f.Have-f.Want != more+others[h] {
			t.Fatalf("%s: %v is found, but callers hold it %d times more, and it is the side of %d nodes that are not reached", when, f, more, others[h])
		}
		if below, cause := f.Want < f.Have, more > 0 || others[h] > 0; below && !cause || cause && more >= 0 && !below {
			t.Fatalf("%s: %v is found, but callers hold it %d times more, and it is the side of %d nodes that are not reached", when, f, more, others[h])
		}
	}
}

// version is a root that callers hold once, and its entries.
type version struct {
	root    int
	entries map[api.Path]string
}

// trial is a store with all that callers hold of it.
type trial struct {
	t        testing.TB
	s        *store.Store
	versions []version
}

func newTrial(t testing.TB, room int) *trial {
	t.Helper()
	return &trial{t: t, s: fresh(t, room)}
}

// roots tells those that callers hold, each as often as they hold it.
func (c *trial) roots() []int {
	var l []int
	for _, v := range c.versions {
		l = append(l, v.root)
	}
	return l
}

// pairs tells a version's entries as a list.
func (v version) pairs() []api.Pair {
	var l []api.Pair
	for key, value := range v.entries {
		l = append(l, api.Pair{Key: key, Value: []byte(value)})
	}
	return l
}

// hold has a version twice from now on, so that each of them may be written by itself.
func (c *trial) hold(i int) {
	c.t.Helper()
	v := c.versions[i]
	if v.root != 0 {
		hold(c.t, c.s, v.root)
	}
	c.versions = append(c.versions, version{v.root, maps.Clone(v.entries)})
}

func (c *trial) letGo(i int) {
	c.t.Helper()
	if root := c.versions[i].root; root != 0 {
		letGo(c.t, c.s, root)
	}
	c.versions = slices.Delete(c.versions, i, i+1)
}

// write has a version's writes done: as one batch, or one by one.
func (c *trial) write(i int, l []api.Write, together bool) {
	c.t.Helper()
	v := &c.versions[i]
	var e api.Errno
	if together {
		v.root, e = batch.Apply(c.s, v.root, l)
	}
	for _, w := range l {
		if e != api.OK {
			c.t.Fatalf("a write of %d = %d", len(l), e)
		}
		if w.Gone {
			delete(v.entries, w.Key)
		} else {
			v.entries[w.Key] = string(w.Value)
		}
		switch {
		case together:
		case w.Gone:
			v.root, _, e = drop.Drop(c.s, v.root, w.Key)
		default:
			v.root, e = put.Put(c.s, v.root, w.Key, w.Value)
		}
	}
	if e != api.OK {
		c.t.Fatalf("a write of %d = %d", len(l), e)
	}
}

// clean sees that the store is what its roots say, and that each of them is sound.
func (c *trial) clean() {
	c.t.Helper()
	roots := c.roots()
	a := ask(c.t, "what callers hold", c.s, roots, api.OK)
	if len(a.findings) > 0 || len(a.lost) > 0 || !slices.Equal(a.reached, c.s.Handles()) {
		c.t.Fatalf("callers hold %v: %v are found, %v are lost", roots, a.findings, a.lost)
	}
	for _, v := range c.versions {
		want, e := node.Root(v.pairs())
		if ok, err := audit.Sound(c.s, v.root); !ok || err != api.OK || e != api.OK || c.s.Digest(v.root) != want {
			c.t.Fatalf("Sound(%d) = %t, %d; its digest is %x, not %x", v.root, ok, err, c.s.Digest(v.root), want)
		}
	}
}

// others asks for lists that are not what callers hold: some left out, some twice, some that no caller holds.
func (c *trial) others(numbers *chance) {
	c.t.Helper()
	roots := c.roots()
	audited(c.t, "just what callers hold", c.s, roots)
	audited(c.t, "none", c.s, nil)
	var some []int
	for _, h := range roots {
		for range numbers.next() % 3 {
			some = append(some, h)
		}
	}
	for _, h := range c.s.Handles() {
		if numbers.next() < 20 && c.s.Root(h) == api.OK {
			some = append(some, h)
		}
	}
	audited(c.t, "some", c.s, some[:min(len(some), 64)])
}

// chance tells numbers that no pattern is seen in.
type chance uint32

func (c *chance) next() byte {
	*c = *c*1664525 + 1013904223
	return byte(*c >> 24)
}

// pool are keys that part at the first bits, at the last ones, and in the midst.
func pool() []api.Path {
	l := []api.Path{keyZ, keyO, keyX, keyY, keyN}
	for i := range 8 {
		l = append(l, api.Path{0: byte(i << 5)}, near(i), scattered(i), ladder(20+3*i))
	}
	return l
}

// writes makes n of them, of keys of the pool.
func (c *chance) writes(n int) []api.Write {
	var l []api.Write
	keys := pool()
	for range n {
		w := gone(keys[int(c.next())%len(keys)])
		if c.next() < 170 {
			w = set(w.Key, int(c.next())%5)
		}
		l = append(l, w)
	}
	return l
}

// step does what three bytes say.
func (c *trial) step(what, x, y byte) {
	c.t.Helper()
	numbers := chance(uint32(what)<<16 + uint32(x)<<8 + uint32(y))
	if len(c.versions) == 0 {
		c.versions = append(c.versions, version{0, map[api.Path]string{}})
	}
	i := int(x) % len(c.versions)
	most := min((c.s.Room()-c.s.Occupied())/258, 64) // as many keys as there is room for
	switch {
	case what%8 == 0 && len(c.versions) < 12:
		c.hold(i)
	case what%8 == 1 || most < 2:
		c.letGo(i)
	case what%8 == 2:
		c.write(i, nil, true)
	case what%8 < 5:
		c.write(i, numbers.writes(1), false)
	default:
		c.write(i, numbers.writes(1+int(y)%(most-1)), true)
	}
	c.clean()
	if what%3 == 0 {
		c.others(&numbers)
	}
}

// emptied lets go of all: then there is nothing to find.
func (c *trial) emptied() {
	c.t.Helper()
	for len(c.versions) > 0 {
		c.letGo(len(c.versions) / 2)
		c.clean()
	}
	tells(c.t, "nothing is held", c.s, nil, nil, nil, 0)
	finds(c.t, "nothing is held", c.s, nil)
}

func TestScripts(t *testing.T) {
	steps := 150
	if testing.Short() {
		steps = 40
	}
	for _, room := range []int{600, 1300, 3000, 6000, 17000} {
		for seed := range 2 {
			c := newTrial(t, room)
			numbers := chance(100*room + seed)
			for range steps {
				c.step(numbers.next(), numbers.next(), numbers.next())
			}
			c.emptied()
		}
	}
}

func FuzzScript(f *testing.F) {
	f.Add(byte(80), []byte{3, 0, 1, 0, 0, 4, 0, 11, 1, 2, 3, 3, 1, 0, 0, 6, 1, 4, 3})
	f.Add(byte(250), noise(120))
	f.Fuzz(func(t *testing.T, room byte, steps []byte) {
		c := newTrial(t, 600+20*int(room))
		steps = steps[:min(len(steps), 90)] // longer scripts show no more, and take long
		for ; len(steps) >= 3; steps = steps[3:] {
			c.step(steps[0], steps[1], steps[2])
		}
		c.emptied()
	})
}

// As many versions as a list bears, each one write behind the one ahead; then let go of one by one, the first, the last, one in the midst.
func TestManyVersions(t *testing.T) {
	for name, key := range kinds {
		c := newTrial(t, 65536)
		c.versions = []version{{0, map[api.Path]string{}}}
		c.write(0, many(30, key), true)
		for i := 1; i < 64; i++ {
			c.hold(i - 1)
			w := set(key(i%40), 50+i)
			if i%3 == 0 {
				w = gone(key(i % 40))
			}
			c.write(i, []api.Write{w}, i%2 == 0)
		}
		c.clean()
		audited(t, name, c.s, c.roots())
		for i := range 64 {
			roots := c.roots()
			if i%8 == 0 {
				audited(t, name, c.s, roots[i%len(roots):])
				audited(t, name, c.s, roots[:i%len(roots)])
			}
			c.letGo([]int{0, len(roots) - 1, len(roots) / 2}[i%3])
			c.clean()
		}
		c.emptied()
	}
}

// Behind puts, drops and batches one hold more than the list says, or one less, is all that is found.
func TestOneHoldMoreOrLess(t *testing.T) {
	c := newTrial(t, 20000)
	numbers := chance(77)
	c.versions = []version{{0, map[api.Path]string{}}}
	for i := range 25 {
		c.hold(i)
		c.write(i+1, numbers.writes(1+i%6), i%2 == 0)
	}
	roots := c.roots()
	alone := func(roots []int, want api.Finding) {
		t.Helper()
		if l, e := audit.Check(c.s, roots); len(l) != 1 || l[0] != want || e != api.OK {
			t.Fatalf("Check(%v) = %v, %d, not %v alone", roots, l, e, want)
		}
	}
	c.clean()
	for _, h := range c.s.Handles() {
		count := c.s.Count(h)
		hold(t, c.s, h)
		alone(roots, finding(h, count, count+1))
		letGo(t, c.s, h)
		if c.s.Root(h) == api.OK {
			alone(append(slices.Clone(roots), h), finding(h, count+1, count))
		}
	}
	c.emptied()
}
