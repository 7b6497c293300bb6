package slab_test

import (
	"fmt"
	"iter"
	"math"
	"runtime"
	"slices"
	"testing"
	"weak"

	"rootcellar/api"
	"rootcellar/slab"
)

// fresh makes a slab of a room that may be.
func fresh[T any](t testing.TB, room int) *slab.Slab[T] {
	t.Helper()
	s, e := slab.New[T](room)
	if s == nil || e != api.OK {
		t.Fatalf("New(%d) = %v, %d", room, s, e)
	}
	return s
}

// filled makes a slab of strings and has it take some.
func filled(t testing.TB, room int, things ...string) *slab.Slab[string] {
	t.Helper()
	s := fresh[string](t, room)
	for i, x := range things {
		take(t, s, x, i+1)
	}
	return s
}

func take[T any](t testing.TB, s *slab.Slab[T], x T, want int) {
	t.Helper()
	if slot, e := s.Take(x); slot != want || e != api.OK {
		t.Errorf("Take(%v) = %d, %d, not %d", x, slot, e, want)
	}
}

func full[T any](t testing.TB, s *slab.Slab[T], x T) {
	t.Helper()
	if slot, e := s.Take(x); slot != 0 || e != api.ErrStoreFull {
		t.Errorf("Take(%v) of a full slab = %d, %d", x, slot, e)
	}
}

func hold[T any](t testing.TB, s *slab.Slab[T], slot int) {
	t.Helper()
	if e := s.Hold(slot); e != api.OK {
		t.Errorf("Hold(%d) = %d", slot, e)
	}
}

func drop[T any](t testing.TB, s *slab.Slab[T], slot int, want bool) {
	t.Helper()
	if free, e := s.Drop(slot); free != want || e != api.OK {
		t.Errorf("Drop(%d) = %t, %d, not %t", slot, free, e, want)
	}
}

func set[T any](t testing.TB, s *slab.Slab[T], slot int, x T) {
	t.Helper()
	if e := s.Set(slot, x); e != api.OK {
		t.Errorf("Set(%d, %v) = %d", slot, x, e)
	}
}

func get[T comparable](t testing.TB, s *slab.Slab[T], slot int, want T) {
	t.Helper()
	if x, e := s.Get(slot); x != want || e != api.OK {
		t.Errorf("Get(%d) = %v, %d, not %v", slot, x, e, want)
	}
}

// count holds a slot's count against what it should be.
func count[T any](t testing.TB, s *slab.Slab[T], slot, want int) {
	t.Helper()
	if n := s.Count(slot); n != want {
		t.Errorf("Count(%d) = %d, not %d", slot, n, want)
	}
}

// missing asks each method for a slot that is not occupied.
func missing[T comparable](t testing.TB, s *slab.Slab[T], slot int) {
	t.Helper()
	var none T
	if x, e := s.Get(slot); x != none || e != api.ErrMissing {
		t.Errorf("Get(%d) = %v, %d", slot, x, e)
	}
	if e := s.Set(slot, none); e != api.ErrMissing {
		t.Errorf("Set(%d) = %d", slot, e)
	}
	if e := s.Hold(slot); e != api.ErrMissing {
		t.Errorf("Hold(%d) = %d", slot, e)
	}
	if free, e := s.Drop(slot); free || e != api.ErrMissing {
		t.Errorf("Drop(%d) = %t, %d", slot, free, e)
	}
	count(t, s, slot, 0)
}

// pair is what All tells of a slot.
type pair[T any] struct {
	slot  int
	thing T
}

func pairs[T any](all iter.Seq2[int, T]) []pair[T] {
	var l []pair[T]
	for slot, x := range all {
		l = append(l, pair[T]{slot, x})
	}
	return l
}

// text tells an iterator's slots of one digit and their strings, one behind the other.
func text(all iter.Seq2[int, string]) string {
	var s string
	for _, p := range pairs(all) {
		s += fmt.Sprint(p.slot, p.thing)
	}
	return s
}

// stands holds what a slab of strings tells of itself against a text such as 1a3c.
func stands(t testing.TB, when string, s *slab.Slab[string], room int, want string) {
	t.Helper()
	if s.Room() != room {
		t.Errorf("%s: Room = %d, not %d", when, s.Room(), room)
	}
	if got := text(s.All()); got != want {
		t.Errorf("%s: All tells %q, not %q", when, got, want)
	}
	slots := s.Slots()
	var told string
	for _, slot := range slots {
		x, e := s.Get(slot)
		if e != api.OK {
			t.Errorf("%s: Get(%d) = %d", when, slot, e)
		}
		told += fmt.Sprint(slot, x)
	}
	if told != want || s.Len() != len(slots) {
		t.Errorf("%s: %d things %q, not %q", when, s.Len(), told, want)
	}
}

func TestExamples(t *testing.T) {
	for _, room := range []int{0, 65537} {
		if s, e := slab.New[string](room); s != nil || e != api.ErrArg {
			t.Errorf("New(%d) = %v, %d", room, s, e)
		}
	}
	s := filled(t, 2, "a", "b")
	full(t, s, "c")

	hold(t, s, 1)
	drop(t, s, 1, false)
	drop(t, s, 1, true)
	missing(t, s, 1)

	take(t, s, "d", 1)
	count(t, s, 1, 1)
	count(t, s, 2, 1)
	stands(t, "behind d", s, 2, "1d2b")

	drop(t, s, 2, true)
	drop(t, s, 1, true)
	take(t, s, "e", 1)
	take(t, s, "f", 2)
	stands(t, "at the end", s, 2, "1e2f")
}

func TestRoomsThatMayNotBe(t *testing.T) {
	for _, room := range []int{0, -1, -2, -65536, 65537, 65538, 131072, 1 << 30, -1 << 30, math.MaxInt32, math.MinInt32, 1 << 32, 1<<32 + 1, -1<<32 + 1, math.MaxInt, math.MaxInt - 1, math.MinInt, math.MinInt + 1} {
		if s, e := slab.New[int](room); s != nil || e != api.ErrArg {
			t.Errorf("New[int](%d) = %v, %d", room, s, e)
		}
		if s, e := slab.New[[]byte](room); s != nil || e != api.ErrArg {
			t.Errorf("New[[]byte](%d) = %v, %d", room, s, e)
		}
	}
}

func TestNewSlabs(t *testing.T) {
	for _, room := range []int{1, 2, 3, 257, 258, 600, 65535, 65536} {
		s := fresh[string](t, room)
		stands(t, "a new one", s, room, "")
		for _, slot := range []int{0, -1, 1, room, room + 1} {
			missing(t, s, slot)
		}
		take(t, s, "a", 1)
		stands(t, "with a thing", s, room, "1a")
		stands(t, "a new one beside it", fresh[string](t, room), room, "")
	}
}

func TestRoomOfOne(t *testing.T) {
	s := filled(t, 1, "a")
	full(t, s, "b")
	stands(t, "full", s, 1, "1a")
	missing(t, s, 2)
	drop(t, s, 1, true)
	stands(t, "free", s, 1, "")
	missing(t, s, 1)
	take(t, s, "c", 1)
	full(t, s, "d")
	stands(t, "full again", s, 1, "1c")
}

// whole makes a slab of the greatest room, full, with 3 n in slot n.
func whole(t *testing.T) *slab.Slab[int] {
	t.Helper()
	s := fresh[int](t, api.MaxNodes)
	for n := 1; n <= api.MaxNodes; n++ {
		if slot, e := s.Take(3 * n); slot != n || e != api.OK {
			t.Fatalf("Take number %d = %d, %d", n, slot, e)
		}
	}
	return s
}

func TestGreatestRoom(t *testing.T) {
	s := whole(t)
	full(t, s, -1)
	if s.Len() != api.MaxNodes || s.Room() != api.MaxNodes {
		t.Errorf("Len %d, Room %d", s.Len(), s.Room())
	}
	missing(t, s, api.MaxNodes+1)
	n := 0
	for slot, x := range s.All() {
		n++
		if slot != n || x != 3*n {
			t.Fatalf("All tells %d, %d as number %d", slot, x, n)
		}
	}
	slots := s.Slots()
	if n != api.MaxNodes || len(slots) != n || slots[0] != 1 || slots[n-1] != n || !slices.IsSorted(slots) {
		t.Errorf("%d in All, %d in Slots", n, len(slots))
	}
	for n := 1; n <= api.MaxNodes; n += 2 {
		drop(t, s, n, true)
	}
	if s.Len() != api.MaxNodes/2 || len(s.Slots()) != s.Len() {
		t.Errorf("half dropped: Len %d, %d slots", s.Len(), len(s.Slots()))
	}
	for n := api.MaxNodes - 1; n >= 1; n -= 2 {
		take(t, s, -n, n)
	}
	full(t, s, 0)
	for n := 1; n <= api.MaxNodes; n++ {
		want := 3 * n
		if n%2 == 1 {
			want = -n
		}
		get(t, s, n, want)
		count(t, s, n, 1)
	}
}

func TestSlotsThatAreNotOccupied(t *testing.T) {
	s := filled(t, 5, "a", "b", "c")
	drop(t, s, 2, true)
	slots := []int{0, -1, -2, -3, 2, 4, 5, 6, 7, 65536, 65537, 1 << 32, 1<<32 + 1, -1<<32 + 1, math.MaxInt32, math.MinInt32, math.MaxInt, math.MinInt, math.MinInt + 1}
	for _, slot := range slots {
		missing(t, s, slot)
		stands(t, fmt.Sprint("asked for slot ", slot), s, 5, "1a3c")
		count(t, s, 1, 1)
		count(t, s, 3, 1)
	}
	take(t, s, "d", 2)
	take(t, s, "e", 4)
	take(t, s, "f", 5)
	full(t, s, "g")
	stands(t, "at the end", s, 5, "1a2d3c4e5f")
}

// A refused Take changes nothing: the slot that is free next is taken as if it had not been.
func TestFullSlabIsLeftAsItIs(t *testing.T) {
	s := filled(t, 3, "a", "b", "c")
	hold(t, s, 2)
	for range 5 {
		full(t, s, "d")
		stands(t, "refused", s, 3, "1a2b3c")
		for slot, want := range []int{0, 1, 2, 1, 0} {
			count(t, s, slot, want)
		}
	}
	drop(t, s, 3, true)
	drop(t, s, 1, true)
	take(t, s, "e", 1)
	take(t, s, "f", 3)
	full(t, s, "g")
	stands(t, "at the end", s, 3, "1e2b3f")
}

// orders tells the numbers 1 to n in each order.
func orders(n int) [][]int {
	if n == 0 {
		return [][]int{nil}
	}
	var l [][]int
	for _, o := range orders(n - 1) {
		for i := range n {
			l = append(l, slices.Insert(slices.Clone(o), i, n))
		}
	}
	return l
}

// Slots are taken in the order opposite to the one in which they became free, and only then those that were never occupied.
func TestWhichSlotIsTaken(t *testing.T) {
	for _, order := range orders(5) {
		for dropped := range len(order) + 1 {
			s := filled(t, 7, "a", "b", "c", "d", "e")
			for _, slot := range order[:dropped] {
				drop(t, s, slot, true)
			}
			for _, slot := range slices.Backward(order[:dropped]) {
				take(t, s, "x", slot)
			}
			take(t, s, "y", 6)
			take(t, s, "z", 7)
			full(t, s, "none")
		}
	}
}

// What became free ahead of the last one is free still when that one was taken and dropped once more.
func TestWhichSlotIsTakenAmongTakesAndDrops(t *testing.T) {
	s := filled(t, 6, "a", "b", "c", "d")
	drop(t, s, 3, true)
	drop(t, s, 1, true)
	take(t, s, "e", 1)
	drop(t, s, 4, true)
	take(t, s, "f", 4)
	take(t, s, "g", 3)
	take(t, s, "h", 5)
	drop(t, s, 2, true)
	drop(t, s, 5, true)
	drop(t, s, 1, true)
	take(t, s, "i", 1)
	take(t, s, "j", 5)
	drop(t, s, 5, true)
	take(t, s, "k", 5)
	take(t, s, "l", 2)
	take(t, s, "m", 6)
	full(t, s, "n")
	stands(t, "at the end", s, 6, "1i2l3g4f5k6m")
}

// A slot becomes free when its last hold is dropped, not when a drop is asked for, and not when a drop is refused.
func TestFreeIsTheLastDrop(t *testing.T) {
	s := filled(t, 3, "a", "b", "c")
	hold(t, s, 1)
	drop(t, s, 1, false)
	drop(t, s, 2, true)
	drop(t, s, 1, true)
	drop(t, s, 3, true)
	missing(t, s, 2)
	missing(t, s, 1)
	take(t, s, "d", 3)
	take(t, s, "e", 1)
	take(t, s, "f", 2)
	stands(t, "at the end", s, 3, "1e2f3d")
}

func TestCounts(t *testing.T) {
	s := filled(t, 3, "a", "b")
	for n := 1; n < 200; n++ {
		count(t, s, 2, n)
		hold(t, s, 2)
		count(t, s, 1, 1)
		count(t, s, 3, 0)
	}
	set(t, s, 2, "c")
	for n := 200; n > 1; n-- {
		count(t, s, 2, n)
		get(t, s, 2, "c")
		stands(t, "held", s, 3, "1a2c")
		drop(t, s, 2, false)
	}
	count(t, s, 2, 1)
	drop(t, s, 2, true)
	stands(t, "dropped", s, 3, "1a")
	missing(t, s, 2)
}

// Telling and setting are no holds.
func TestOnlyHoldAndDropCount(t *testing.T) {
	s := filled(t, 2, "a")
	for range 3 {
		get(t, s, 1, "a")
		set(t, s, 1, "a")
		count(t, s, 1, 1)
		stands(t, "asked", s, 2, "1a")
	}
	drop(t, s, 1, true)
}

func TestSlotTakenAnew(t *testing.T) {
	s := filled(t, 2, "a", "b")
	for range 9 {
		hold(t, s, 1)
	}
	for range 9 {
		drop(t, s, 1, false)
	}
	drop(t, s, 1, true)
	missing(t, s, 1)
	take(t, s, "c", 1)
	count(t, s, 1, 1)
	get(t, s, 1, "c")
	drop(t, s, 1, true)
	take(t, s, "", 1)
	get(t, s, 1, "")
	stands(t, "taken anew", s, 2, "12b")
	drop(t, s, 1, true)
	missing(t, s, 1)
	get(t, s, 2, "b")
}

// No slot of a slab tells what one held that is free now, not even beside an error.
func TestFreeSlotTellsNothing(t *testing.T) {
	s := fresh[[]byte](t, 2)
	take(t, s, []byte{1, 2}, 1)
	drop(t, s, 1, true)
	if b, e := s.Get(1); b != nil || e != api.ErrMissing {
		t.Errorf("Get of a free slot = %v, %d", b, e)
	}
	if e := s.Set(1, []byte{3}); e != api.ErrMissing {
		t.Errorf("Set of a free slot = %d", e)
	}
	take(t, s, nil, 1)
	if b, e := s.Get(1); b != nil || e != api.OK {
		t.Errorf("Get = %v, %d", b, e)
	}
}

func TestSet(t *testing.T) {
	s := filled(t, 3, "a", "b", "c")
	hold(t, s, 2)
	set(t, s, 2, "d")
	set(t, s, 3, "e")
	stands(t, "set", s, 3, "1a2d3e")
	set(t, s, 2, "")
	get(t, s, 2, "")
	count(t, s, 2, 2)
	count(t, s, 3, 1)
	set(t, s, 2, "f")
	drop(t, s, 2, false)
	get(t, s, 2, "f")
	stands(t, "set again", s, 3, "1a2f3e")
}

func TestGreatestCount(t *testing.T) {
	if testing.Short() {
		t.Skip("holds a slot 2^30 times")
	}
	const most = 1 << 30
	s := filled(t, 3, "a", "b")
	for n := 1; n < most-1; n++ {
		if e := s.Hold(1); e != api.OK {
			t.Fatalf("Hold of a count of %d = %d", n, e)
		}
	}
	count(t, s, 1, most-1)
	hold(t, s, 1)
	for range 3 {
		count(t, s, 1, most)
		if e := s.Hold(1); e != api.ErrLong {
			t.Errorf("Hold of a count of 2^30 = %d", e)
		}
	}
	hold(t, s, 2)
	count(t, s, 2, 2)
	missing(t, s, 3)
	set(t, s, 1, "c")
	stands(t, "held 2^30 times", s, 3, "1c2b")
	drop(t, s, 1, false)
	count(t, s, 1, most-1)
	hold(t, s, 1)
	if e := s.Hold(1); e != api.ErrLong {
		t.Errorf("Hold of a count of 2^30, once more = %d", e)
	}
	drop(t, s, 1, false)
	drop(t, s, 1, false)
	count(t, s, 1, most-2)
	stands(t, "at the end", s, 3, "1c2b")
}

func TestSlotsAndAllRise(t *testing.T) {
	for _, order := range orders(5) {
		s := filled(t, 5, "a", "b", "c", "d", "e")
		for _, slot := range order {
			drop(t, s, slot, true)
		}
		var want []int
		for _, slot := range slices.Backward(order) {
			take(t, s, fmt.Sprint("x", slot), slot)
			want = append(want, slot)
			slices.Sort(want)
			if got := s.Slots(); !slices.Equal(got, want) {
				t.Fatalf("Slots = %v, not %v", got, want)
			}
			var l []pair[string]
			for _, slot := range want {
				l = append(l, pair[string]{slot, fmt.Sprint("x", slot)})
			}
			if got := pairs(s.All()); !slices.Equal(got, l) {
				t.Fatalf("All tells %v, not %v", got, l)
			}
		}
	}
}

func TestSlotsMayBeWrittenOver(t *testing.T) {
	s := filled(t, 4, "a", "b", "c")
	drop(t, s, 2, true)
	one, two, all := s.Slots(), s.Slots(), s.All()
	for i := range one[:cap(one)] {
		one[:cap(one)][i] = 99
	}
	_ = append(one[:0], 98, 97, 96, 95)
	if !slices.Equal(two, []int{1, 3}) {
		t.Errorf("two answers share memory: %v", two)
	}
	if got := text(all); got != "1a3c" {
		t.Errorf("All shares memory with Slots: %q", got)
	}
	stands(t, "written over", s, 4, "1a3c")
	take(t, s, "d", 2)
	take(t, s, "e", 4)
	if !slices.Equal(two, []int{1, 3}) {
		t.Errorf("an answer changes behind the call: %v", two)
	}
	stands(t, "at the end", s, 4, "1a2d3c4e")
}

func TestAllTellsWhatStoodAtItsCall(t *testing.T) {
	s := filled(t, 5, "a", "b", "c")
	drop(t, s, 2, true)
	all := s.All()
	drop(t, s, 1, true)
	set(t, s, 3, "x")
	take(t, s, "y", 1)
	take(t, s, "z", 2)
	take(t, s, "w", 4)
	for range 3 {
		if got := text(all); got != "1a3c" {
			t.Errorf("All tells %q behind changes", got)
		}
	}
	if got := text(s.All()); got != "1y2z3x4w" {
		t.Errorf("All anew tells %q", got)
	}
	for _, slot := range s.Slots() {
		drop(t, s, slot, true)
	}
	if got := text(all); got != "1a3c" {
		t.Errorf("All tells %q when nothing is there", got)
	}
	stands(t, "empty", s, 5, "")
}

func TestAllOfNothing(t *testing.T) {
	s := fresh[string](t, 3)
	all := s.All()
	take(t, s, "a", 1)
	if got := text(all); got != "" {
		t.Errorf("All of nothing tells %q", got)
	}
	stands(t, "with a thing", s, 3, "1a")
}

func TestChangesWhileAllGoes(t *testing.T) {
	s := filled(t, 6, "a", "b", "c", "d")
	drop(t, s, 2, true)
	var got string
	for slot, x := range s.All() {
		got += fmt.Sprint(slot, x)
		switch slot {
		case 1:
			take(t, s, "x", 2)
			set(t, s, 3, "y")
			drop(t, s, 4, true)
			take(t, s, "z", 4)
			take(t, s, "w", 5)
		case 3:
			drop(t, s, 3, true)
			drop(t, s, 4, true)
			drop(t, s, 1, true)
		}
	}
	if got != "1a3c4d" {
		t.Errorf("All tells %q while things change", got)
	}
	stands(t, "behind it", s, 6, "2x5w")
}

func TestAllThatIsLeft(t *testing.T) {
	s := filled(t, 4, "a", "b", "c", "d")
	all := s.All()
	for stop := 1; stop <= 4; stop++ {
		asked := 0
		all(func(slot int, x string) bool {
			asked++
			return slot < stop
		})
		if asked != stop {
			t.Errorf("All that is left at slot %d goes on to number %d", stop, asked)
		}
	}
	for slot := range all {
		if slot == 2 {
			break
		}
	}
	if got := text(all); got != "1a2b3c4d" {
		t.Errorf("All that was left tells %q", got)
	}
}

func TestAllInAll(t *testing.T) {
	s := filled(t, 3, "a", "b", "c")
	all := s.All()
	var got string
	for slot := range all {
		got += fmt.Sprint(slot, ":", text(all), " ")
	}
	if got != "1:1a2b3c 2:1a2b3c 3:1a2b3c " {
		t.Errorf("All in All tells %q", got)
	}
}

// none tells slabs that New did not answer.
func none[T any](t *testing.T, x T) map[string]*slab.Slab[T] {
	t.Helper()
	var plain slab.Slab[T]
	made := fresh[T](t, 3)
	take(t, made, x, 1)
	copied := *made
	over := fresh[T](t, 3)
	take(t, over, x, 1)
	*over = *made
	emptied := fresh[T](t, 3)
	take(t, emptied, x, 1)
	*emptied = slab.Slab[T]{}
	return map[string]*slab.Slab[T]{
		"nil": nil, "a plain one": &plain, "a new one": new(slab.Slab[T]), "a copy": &copied, "one written over": over, "one emptied": emptied,
	}
}

// asksNone asks each method of a slab that New did not answer.
func asksNone[T comparable](t *testing.T, when string, s *slab.Slab[T], x T) {
	t.Helper()
	var zero T
	if slot, e := s.Take(x); slot != 0 || e != api.ErrNil {
		t.Errorf("%s: Take = %d, %d", when, slot, e)
	}
	for _, slot := range []int{1, 0, 2, -1, 3, 4, math.MaxInt, math.MinInt} {
		if got, e := s.Get(slot); got != zero || e != api.ErrNil {
			t.Errorf("%s: Get(%d) = %v, %d", when, slot, got, e)
		}
		if e := s.Set(slot, x); e != api.ErrNil {
			t.Errorf("%s: Set(%d) = %d", when, slot, e)
		}
		if e := s.Hold(slot); e != api.ErrNil {
			t.Errorf("%s: Hold(%d) = %d", when, slot, e)
		}
		if free, e := s.Drop(slot); free || e != api.ErrNil {
			t.Errorf("%s: Drop(%d) = %t, %d", when, slot, free, e)
		}
		if n := s.Count(slot); n != 0 {
			t.Errorf("%s: Count(%d) = %d", when, slot, n)
		}
	}
	if s.Len() != 0 || s.Room() != 0 || len(s.Slots()) != 0 {
		t.Errorf("%s: Len %d, Room %d, Slots %v", when, s.Len(), s.Room(), s.Slots())
	}
	all := s.All()
	if all == nil {
		t.Fatalf("%s: All is nil", when)
	}
	if l := pairs(all); len(l) != 0 {
		t.Errorf("%s: All tells %v", when, l)
	}
}

func TestSlabsThatNewDidNotAnswer(t *testing.T) {
	for when, s := range none(t, "a") {
		asksNone(t, when, s, "x")
		asksNone(t, when+", asked again", s, "")
	}
	for when, s := range none(t, 7) {
		asksNone(t, when, s, 8)
	}
}

// What is asked of a copy does nothing to the slab that it was made of.
func TestCopyLeavesTheSlab(t *testing.T) {
	s := filled(t, 3, "a", "b", "c")
	drop(t, s, 2, true)
	copied := *s
	asksNone(t, "a copy", &copied, "x")
	stands(t, "behind a copy", s, 3, "1a3c")
	take(t, s, "d", 2)
	asksNone(t, "a copy, later", &copied, "x")
	stands(t, "at the end", s, 3, "1a2d3c")
}

func TestSlabsAreByThemselves(t *testing.T) {
	one, two := filled(t, 3, "a", "b"), filled(t, 3, "c")
	hold(t, one, 1)
	drop(t, one, 2, true)
	set(t, one, 1, "x")
	stands(t, "the one", one, 3, "1x")
	stands(t, "the other", two, 3, "1c")
	count(t, two, 1, 1)
	take(t, two, "d", 2)
	drop(t, two, 1, true)
	stands(t, "the one", one, 3, "1x")
	count(t, one, 1, 2)
	take(t, one, "e", 2)
	take(t, two, "f", 1)
}

// Things are told as they are: what they point to is the same one.
func TestThingsAreNotCopied(t *testing.T) {
	p, q := new(int), new(int)
	s := fresh[*int](t, 2)
	take(t, s, p, 1)
	get(t, s, 1, p)
	*p = 5
	if x, _ := s.Get(1); *x != 5 {
		t.Errorf("a pointer leads to %d", *x)
	}
	set(t, s, 1, q)
	get(t, s, 1, q)

	room := []byte{1, 2, 3}
	l := fresh[[]byte](t, 1)
	take(t, l, room[:2], 1)
	x, _ := l.Get(1)
	if len(x) != 2 || cap(x) != 3 || &x[0] != &room[0] {
		t.Errorf("a slice is told as %v of room %d", x, cap(x))
	}
	for _, y := range l.All() {
		if len(y) != 2 || &y[0] != &room[0] {
			t.Errorf("All tells a slice as %v", y)
		}
	}
	if !slices.Equal(room, []byte{1, 2, 3}) {
		t.Errorf("what was handed in is changed: %v", room)
	}
}

// laid takes a thing that nothing but the slab points at.
func laid(t *testing.T, s *slab.Slab[*record], want int) weak.Pointer[record] {
	t.Helper()
	r := &record{name: "laid"}
	take(t, s, r, want)
	return weak.Make(r)
}

// A slab keeps a thing for as long as its slot is held with it, and no longer.
func TestThingsAreLetGo(t *testing.T) {
	s := fresh[*record](t, 3)
	dropped, replaced, kept := laid(t, s, 1), laid(t, s, 2), laid(t, s, 3)
	drop(t, s, 1, true)
	set(t, s, 2, nil)
	hold(t, s, 3)
	drop(t, s, 3, false)
	runtime.GC()
	if dropped.Value() != nil || replaced.Value() != nil {
		t.Error("a thing is kept that no slot holds")
	}
	if kept.Value() == nil {
		t.Error("a thing is gone that a slot holds")
	}
	runtime.KeepAlive(s)
}
