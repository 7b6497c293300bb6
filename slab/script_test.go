package slab_test

import (
	"errors"
	"fmt"
	"math"
	"slices"
	"testing"

	"rootcellar/api"
	"rootcellar/slab"
)

// model is a slab in the chapter's words: what each occupied slot holds and how often, and when each free one became free.
type model[T any] struct {
	room   int
	things map[int]T
	counts map[int]int
	freed  map[int]int
	steps  int
}

func newModel[T any](room int) *model[T] {
	return &model[T]{room: room, things: map[int]T{}, counts: map[int]int{}, freed: map[int]int{}}
}

// next tells which slot is taken: that one of the free ones that became free last, or the least that was never occupied; 0, if none is free.
func (m *model[T]) next() int {
	latest := 0
	for slot, step := range m.freed {
		if latest == 0 || step > m.freed[latest] {
			latest = slot
		}
	}
	if latest != 0 {
		return latest
	}
	for slot := 1; slot <= m.room; slot++ {
		if m.counts[slot] == 0 {
			return slot
		}
	}
	return 0
}

func (m *model[T]) take(x T) (int, api.Errno) {
	slot := m.next()
	if slot == 0 {
		return 0, api.ErrStoreFull
	}
	delete(m.freed, slot)
	m.things[slot], m.counts[slot] = x, 1
	return slot, api.OK
}

func (m *model[T]) drop(slot int) (bool, api.Errno) {
	if m.counts[slot] == 0 {
		return false, api.ErrMissing
	}
	m.counts[slot]--
	if m.counts[slot] > 0 {
		return false, api.OK
	}
	delete(m.counts, slot)
	delete(m.things, slot)
	m.steps++
	m.freed[slot] = m.steps
	return true, api.OK
}

func (m *model[T]) hold(slot int) api.Errno {
	if m.counts[slot] == 0 {
		return api.ErrMissing
	}
	m.counts[slot]++
	return api.OK
}

func (m *model[T]) set(slot int, x T) api.Errno {
	if m.counts[slot] == 0 {
		return api.ErrMissing
	}
	m.things[slot] = x
	return api.OK
}

// slots tells the occupied ones, rising.
func (m *model[T]) slots() []int {
	var l []int
	for slot := 1; slot <= m.room; slot++ {
		if m.counts[slot] > 0 {
			l = append(l, slot)
		}
	}
	return l
}

// script has a slab and its model do the same.
type script[T any] struct {
	t    testing.TB
	s    *slab.Slab[T]
	m    *model[T]
	like func(a, b T) bool
}

func newScript[T any](t testing.TB, room int, like func(a, b T) bool) *script[T] {
	t.Helper()
	return &script[T]{t, fresh[T](t, room), newModel[T](room), like}
}

// step has both do what a byte says, at a slot, with a thing.
func (c *script[T]) step(what byte, slot int, x T) {
	c.t.Helper()
	switch what % 8 {
	case 0, 1, 2:
		slot, e := c.s.Take(x)
		if wantSlot, want := c.m.take(x); slot != wantSlot || e != want {
			c.t.Fatalf("Take = %d, %d, not %d, %d", slot, e, wantSlot, want)
		}
	case 3:
		if e, want := c.s.Hold(slot), c.m.hold(slot); e != want {
			c.t.Fatalf("Hold(%d) = %d, not %d", slot, e, want)
		}
	case 4, 5, 6:
		free, e := c.s.Drop(slot)
		if wantFree, want := c.m.drop(slot); free != wantFree || e != want {
			c.t.Fatalf("Drop(%d) = %t, %d, not %t, %d", slot, free, e, wantFree, want)
		}
	case 7:
		if e, want := c.s.Set(slot, x), c.m.set(slot, x); e != want {
			c.t.Fatalf("Set(%d) = %d, not %d", slot, e, want)
		}
	}
	c.compare()
}

// compare holds all that the slab tells against the model.
func (c *script[T]) compare() {
	c.t.Helper()
	slots := c.m.slots()
	if c.s.Len() != len(slots) || c.s.Room() != c.m.room || !slices.Equal(c.s.Slots(), slots) {
		c.t.Fatalf("Len %d, Room %d, Slots %v, not %d, %d, %v", c.s.Len(), c.s.Room(), c.s.Slots(), len(slots), c.m.room, slots)
	}
	for slot := -1; slot <= c.m.room+2; slot++ {
		if n := c.s.Count(slot); n != c.m.counts[slot] {
			c.t.Fatalf("Count(%d) = %d, not %d", slot, n, c.m.counts[slot])
		}
		want := api.OK
		if c.m.counts[slot] == 0 {
			want = api.ErrMissing
		}
		if x, e := c.s.Get(slot); e != want || !c.like(x, c.m.things[slot]) {
			c.t.Fatalf("Get(%d) = %v, %d, not %v, %d", slot, x, e, c.m.things[slot], want)
		}
	}
	for slot, x := range c.s.All() {
		if len(slots) == 0 || slot != slots[0] || !c.like(x, c.m.things[slot]) {
			c.t.Fatalf("All tells %d, %v where %v are left", slot, x, slots)
		}
		slots = slots[1:]
	}
	if len(slots) > 0 {
		c.t.Fatalf("All leaves out %v", slots)
	}
}

// run goes through n steps at one room, by numbers that no pattern is seen in; thing makes a new thing of each step's number.
func run[T any](t *testing.T, room, n int, like func(a, b T) bool, thing func(int) T) {
	t.Helper()
	c := newScript(t, room, like)
	seed := uint32(room)
	for i := range n {
		seed = seed*1664525 + 1013904223
		c.step(byte(seed>>24), int(seed>>8&0xffff)%(room+3)-1, thing(i))
	}
}

func same[T comparable](a, b T) bool { return a == b }

// record is a thing of several parts.
type record struct {
	name  string
	words [5]uint64
	next  *record
}

func TestScriptsAtThingsOfManyTypes(t *testing.T) {
	for _, room := range []int{1, 2, 3, 4, 7, 20} {
		run(t, room, 2000, same, func(i int) int { return i - 1000 })
		run(t, room, 2000, same, func(i int) string { return fmt.Sprint("thing ", i) })
		run(t, room, 2000, same, func(i int) bool { return i%3 == 0 })
		run(t, room, 2000, same, func(i int) struct{} { return struct{}{} })
		run(t, room, 2000, same, func(i int) *int { return &i })
		run(t, room, 2000, same, func(i int) api.Hash { return api.Hash{byte(i), byte(i >> 8), 31: 7} })
		run(t, room, 2000, same, func(i int) error { return []error{nil, api.ErrArg, errors.New("of its own")}[i%3] })
		run(t, room, 2000, same, func(i int) record { return record{fmt.Sprint(i), [5]uint64{4: uint64(i)}, &record{}} })
		run(t, room, 2000, slices.Equal, func(i int) []byte { return slices.Repeat([]byte{byte(i)}, i%5) })
		run(t, room, 2000, func(a, b func() int) bool {
			return a == nil && b == nil || a != nil && b != nil && a() == b()
		}, func(i int) func() int { return func() int { return i } })
		run(t, room, 2000, func(a, b float64) bool { return math.Float64bits(a) == math.Float64bits(b) },
			func(i int) float64 { return []float64{math.NaN(), 0, math.Copysign(0, -1), float64(i)}[i%4] })
	}
}

func TestScriptAtAGreatRoom(t *testing.T) {
	run(t, 300, 4000, same, func(i int) int { return i })
}

// Each step of every short script is held against the model: all that may be done at a room of 2, five steps deep.
func TestEveryShortScript(t *testing.T) {
	type call struct {
		what byte
		slot int
	}
	calls := []call{{0, 0}}
	for slot := 0; slot <= 3; slot++ {
		calls = append(calls, call{3, slot}, call{4, slot}, call{7, slot})
	}
	const depth = 5
	all := 1
	for range depth {
		all *= len(calls)
	}
	for i := range all {
		c := newScript(t, 2, same[int])
		for rest, n := i, 0; n < depth; rest, n = rest/len(calls), n+1 {
			k := calls[rest%len(calls)]
			c.step(k.what, k.slot, 10*i+n)
		}
	}
}

// Of P6.4: as many are held as were taken and not yet dropped to 0, and a count is once for each Take and Hold, less once for each Drop.
func TestWhatFollows(t *testing.T) {
	const room = 40
	s := fresh[int](t, room)
	var holds [room + 1]int
	var things [room + 1]int
	occupied := 0
	seed := uint32(1)
	for i := range 20000 {
		seed = seed*1664525 + 1013904223
		slot := int(seed>>8&0xffff)%room + 1
		switch {
		case seed>>28 < 5:
			slot, e := s.Take(i)
			if e == api.OK {
				if holds[slot] != 0 {
					t.Fatalf("slot %d was taken while it was held %d times", slot, holds[slot])
				}
				holds[slot], things[slot] = 1, i
				occupied++
			} else if occupied < room {
				t.Fatalf("Take with %d occupied = %d", occupied, e)
			}
		case seed>>28 < 9:
			if s.Hold(slot) == api.OK {
				holds[slot]++
			}
		default:
			if free, e := s.Drop(slot); e == api.OK {
				holds[slot]--
				if free {
					occupied--
				}
				if free != (holds[slot] == 0) {
					t.Fatalf("Drop(%d) = %t with %d holds left", slot, free, holds[slot])
				}
			}
		}
		if s.Len() != occupied {
			t.Fatalf("Len = %d, not %d", s.Len(), occupied)
		}
		for slot := 1; slot <= room; slot++ {
			if s.Count(slot) != holds[slot] {
				t.Fatalf("Count(%d) = %d, not %d", slot, s.Count(slot), holds[slot])
			}
			if x, e := s.Get(slot); holds[slot] > 0 && (x != things[slot] || e != api.OK) {
				t.Fatalf("Get(%d) = %d, %d, not %d", slot, x, e, things[slot])
			}
		}
	}
}

func FuzzScript(f *testing.F) {
	f.Add(byte(1), []byte{0, 0, 0, 1, 4, 2, 4, 1, 0, 0, 0, 0})
	f.Add(byte(2), []byte{0, 0, 0, 0, 0, 0, 3, 2, 4, 2, 4, 2, 4, 2, 7, 3})
	f.Add(byte(6), []byte{0, 0, 0, 0, 0, 0, 0, 0, 4, 4, 4, 2, 4, 3, 7, 5, 0, 0, 0, 0})
	f.Fuzz(func(t *testing.T, room byte, steps []byte) {
		c := newScript(t, int(room)%32+1, same[int])
		for i := 0; i+1 < len(steps); i += 2 {
			c.step(steps[i], int(int8(steps[i+1])), i)
		}
	})
}
