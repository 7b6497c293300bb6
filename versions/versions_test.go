package versions_test

import (
	"bytes"
	"fmt"
	"math"
	"slices"
	"strings"
	"testing"
	"unsafe"

	"rootcellar/api"
	"rootcellar/store"
	"rootcellar/versions"
)

// The keys of the document's examples.
var (
	keyZ = api.Path{}
	keyO = api.Path{31: 1}
	keyX = api.Path{0: 64}
	keyY = api.Path{0: 128}
)

// strange are handles that are no node's in any store of a room below 60,000.
var strange = []int{-1, -2, -3, 60000, 65536, 65537, 1 << 32, 1<<32 + 1, -1<<32 + 1, math.MaxInt32, math.MinInt32, math.MaxInt, math.MinInt, math.MinInt + 1}

// sixteen are as many names as there may be.
var sixteen = strings.Fields("a b c d e f g h i j k l m n o p")

// fresh makes a store of a room that may be.
func fresh(t testing.TB, room int) *store.Store {
	t.Helper()
	s, e := store.New(room)
	if s == nil || e != api.OK {
		t.Fatalf("New(%d) = %v, %d", room, s, e)
	}
	return s
}

// of makes versions of a store.
func of(t testing.TB, s *store.Store) *versions.Versions {
	t.Helper()
	v, e := versions.New(s)
	if v == nil || e != api.OK {
		t.Fatalf("New = %v, %d", v, e)
	}
	return v
}

func leaf(t testing.TB, s *store.Store, key api.Path, value string) int {
	t.Helper()
	h, e := s.Leaf(key, []byte(value))
	if e != api.OK {
		t.Fatalf("Leaf(%x, %q) = %d", key, value, e)
	}
	return h
}

func inner(t testing.TB, s *store.Store, d, left, right int) int {
	t.Helper()
	h, e := s.Inner(d, left, right)
	if e != api.OK {
		t.Fatalf("Inner(%d, %d, %d) = %d", d, left, right, e)
	}
	return h
}

func hold(t testing.TB, s *store.Store, h int) {
	t.Helper()
	if e := s.Hold(h); e != api.OK {
		t.Fatalf("Hold(%d) = %d", h, e)
	}
}

// drop drops a caller's hold, with which so many nodes become free.
func drop(t testing.TB, s *store.Store, h, want int) {
	t.Helper()
	if n, e := s.Drop(h); n != want || e != api.OK {
		t.Fatalf("store.Drop(%d) = %d, %d, not %d", h, n, e, want)
	}
}

func add(t testing.TB, v *versions.Versions, name string, root int) {
	t.Helper()
	if e := v.Add(name, root); e != api.OK {
		t.Fatalf("Add(%q, %d) = %d", name, root, e)
	}
}

func gone(t testing.TB, v *versions.Versions, name string, want int) {
	t.Helper()
	if n, e := v.Drop(name); n != want || e != api.OK {
		t.Fatalf("Drop(%q) = %d, %d, not %d", name, n, e, want)
	}
}

func move(t testing.TB, v *versions.Versions, name string, root, want int) {
	t.Helper()
	if n, e := v.Move(name, root); n != want || e != api.OK {
		t.Fatalf("Move(%q, %d) = %d, %d, not %d", name, root, n, e, want)
	}
}

// held sees how often callers hold a node, and how many slots are occupied.
func held(t testing.TB, when string, s *store.Store, h, want, occupied int) {
	t.Helper()
	if s.Held(h) != want || s.Occupied() != occupied {
		t.Errorf("%s: Held(%d) %d, Occupied %d, not %d, %d", when, h, s.Held(h), s.Occupied(), want, occupied)
	}
}

// toldOf tells all that a store tells.
func toldOf(s *store.Store) string {
	var b strings.Builder
	fmt.Fprintln(&b, s.Occupied(), s.Room())
	for _, h := range s.Handles() {
		left, right := s.Sides(h)
		fmt.Fprintf(&b, "%d %d %d %x %x %d %d %x %d %d %d\n", h, s.Kind(h), s.Depth(h), s.Key(h), s.Value(h), left, right, s.Digest(h), s.Size(h), s.Count(h), s.Held(h))
	}
	return b.String()
}

// told tells all that versions and their store tell.
func told(v *versions.Versions) string {
	var b strings.Builder
	fmt.Fprintln(&b, v.Len(), v.Names(), v.Roots())
	for _, name := range v.Names() {
		root, e := v.Root(name)
		fmt.Fprintln(&b, name, root, int(e))
	}
	return b.String() + toldOf(v.Store())
}

// stands sees that just these names are there, with these roots in their order.
func stands(t testing.TB, when string, v *versions.Versions, names string, roots ...int) {
	t.Helper()
	want := strings.Fields(names)
	if l := v.Names(); !slices.Equal(l, want) {
		t.Fatalf("%s: Names %q, not %q", when, l, want)
	}
	if l := v.Roots(); !slices.Equal(l, roots) {
		t.Fatalf("%s: Roots %v, not %v", when, l, roots)
	}
	if v.Len() != len(want) {
		t.Fatalf("%s: Len %d, not %d", when, v.Len(), len(want))
	}
	for i, name := range want {
		if root, e := v.Root(name); root != roots[i] || e != api.OK {
			t.Fatalf("%s: Root(%q) = %d, %d, not %d", when, name, root, e, roots[i])
		}
	}
}

// notAdd sees that Add is refused, and that nothing has changed by it.
func notAdd(t testing.TB, when string, v *versions.Versions, name string, root int, want api.Errno) {
	t.Helper()
	before := told(v)
	if e := v.Add(name, root); e != want {
		t.Fatalf("%s: Add(%q, %d) = %d, not %d", when, name, root, e, want)
	}
	if after := told(v); after != before {
		t.Fatalf("%s: behind a refused Add(%q, %d):\n%snot\n%s", when, name, root, after, before)
	}
}

func notMove(t testing.TB, when string, v *versions.Versions, name string, root int, want api.Errno) {
	t.Helper()
	before := told(v)
	if n, e := v.Move(name, root); n != 0 || e != want {
		t.Fatalf("%s: Move(%q, %d) = %d, %d, not %d", when, name, root, n, e, want)
	}
	if after := told(v); after != before {
		t.Fatalf("%s: behind a refused Move(%q, %d):\n%snot\n%s", when, name, root, after, before)
	}
}

// notThere sees that a name is missing, wherever it is asked for, with any root.
func notThere(t testing.TB, when string, v *versions.Versions, name string) {
	t.Helper()
	before := told(v)
	if root, e := v.Root(name); root != 0 || e != api.ErrMissing {
		t.Fatalf("%s: Root(%q) = %d, %d", when, name, root, e)
	}
	if n, e := v.Drop(name); n != 0 || e != api.ErrMissing {
		t.Fatalf("%s: Drop(%q) = %d, %d", when, name, n, e)
	}
	if after := told(v); after != before {
		t.Fatalf("%s: behind a refused Drop(%q):\n%snot\n%s", when, name, after, before)
	}
	for _, root := range append(some(v.Store().Handles(), 12), append(strange, 0)...) {
		notMove(t, when, v, name, root, api.ErrMissing)
	}
}

// some tells at most so many of a list, the first and the last among them: to ask for each of a great tree takes long.
func some(l []int, n int) []int {
	if len(l) <= n {
		return l
	}
	var few []int
	for i := range n {
		few = append(few, l[i*(len(l)-1)/(n-1)])
	}
	return few
}

// The examples of the chapter.
func TestExamples(t *testing.T) {
	s := fresh(t, 600)
	r := leaf(t, s, keyZ, "")
	v := of(t, s)
	add(t, v, "a", r)
	notAdd(t, "a name twice", v, "a", r, api.ErrThere)
	notAdd(t, "no name", v, "2", r, api.ErrName)
	notAdd(t, "no node", v, "b", 9, api.ErrMissing)
	held(t, "behind Add", s, r, 2, 1)
	drop(t, s, r, 0)
	stands(t, "the caller has dropped it", v, "a", r)
	add(t, v, "none", 0)
	stands(t, "with the empty tree", v, "a none", r, 0)
	gone(t, v, "a", 1)
	notThere(t, "dropped", v, "a")
	held(t, "dropped", s, r, 0, 0)
	stands(t, "dropped", v, "none", 0)
}

// What a name is, in the document's words: each sign at each place of names of each length.
func TestNames(t *testing.T) {
	const letters, signs = "abcdefghijklmnopqrstuvwxyz", "abcdefghijklmnopqrstuvwxyz0123456789-"
	if versions.Name("") {
		t.Error("the text of no sign is a name")
	}
	for n := 1; n <= 25; n++ {
		for at := range n {
			for c := range 256 {
				text := bytes.Repeat([]byte{'a'}, n)
				text[at] = byte(c)
				may := signs
				if at == 0 {
					may = letters
				}
				want := n <= 20 && strings.IndexByte(may, byte(c)) >= 0
				if got := versions.Name(string(text)); got != want {
					t.Fatalf("Name(%q) = %t", text, got)
				}
			}
		}
	}
}

// texts are names, and texts that are none, by what is wrong with them.
func texts() (names, others []string) {
	names = []string{
		"a", "z", "m", "a-", "a0", "z9", "az", "a--", "a-b-c", "z-9", "none", "one", "two2", "a123456789",
		"abcdefghijklmnopqrst", "uvwxyz0123456789----", "zzzzzzzzzzzzzzzzzzzz", "a-------------------", "a9999999999999999999",
	}
	others = []string{
		"", "-", "0", "9", "2", "2a", "-a", "A", "Z", "`", "{", "@", "[", "/", ":", ",", ".", "_", " ", "\x00", "\x7f", "\x80", "\xe1", "\xff",
		"a`", "a{", "a@", "a[", "a/", "a:", "a,", "a.", "a_", "a ", " a", "a\n", "a\x00", "aA", "aZ", "a\x80", "a\xe1", "a\xfa", "a\xff", "a\xad",
		"é", "aé", "ä", "aß", "a\u0661", "а", "ａ", "a\u2010", "a\u00ad", "\ufffd", "one two",
		"abcdefghijklmnopqrstu", "aaaaaaaaaaaaaaaaaaaaa", "abcdefghijklmnopqrs-é", "abcdefghijklmnopqrsé", strings.Repeat("a", 276), strings.Repeat("a", 65537), strings.Repeat("é", 10),
	}
	return names, others
}

// Add takes what Name says is a name, alone; the others ask for what is there, whatever it is.
func TestAddTakesNamesAlone(t *testing.T) {
	s := fresh(t, 9)
	r := leaf(t, s, keyZ, "")
	v := of(t, s)
	add(t, v, "other", r)
	names, others := texts()
	for _, name := range names {
		if !versions.Name(name) {
			t.Errorf("Name(%q) is false", name)
		}
		notThere(t, "not yet there", v, name)
		add(t, v, name, r)
		if root, e := v.Root(name); root != r || e != api.OK {
			t.Errorf("Root(%q) = %d, %d", name, root, e)
		}
		held(t, name, s, r, 3, 1)
		gone(t, v, name, 0)
		notThere(t, "dropped", v, name)
	}
	for _, name := range others {
		if versions.Name(name) {
			t.Errorf("Name(%q) is true", name)
		}
		for _, root := range append(slices.Clone(strange), 0, r, 2) {
			notAdd(t, "no name", v, name, root, api.ErrName)
		}
		notThere(t, "no name", v, name)
	}
	stands(t, "at the end", v, "other", r)
	held(t, "at the end", s, r, 2, 1)
}

// New changes nothing of a store, whatever stands there, and there are no names at first.
func TestNew(t *testing.T) {
	stores := map[string]*store.Store{"room 1": fresh(t, 1), "the greatest room": fresh(t, 65536), "full": fresh(t, 3), "dropped": fresh(t, 2)}
	inner(t, stores["full"], 0, leaf(t, stores["full"], keyZ, ""), leaf(t, stores["full"], keyY, ""))
	drop(t, stores["dropped"], leaf(t, stores["dropped"], keyZ, ""), 1)
	for when, s := range stores {
		before := toldOf(s)
		v := of(t, s)
		stands(t, when, v, "")
		if v.Store() != s {
			t.Errorf("%s: Store is another one", when)
		}
		notThere(t, when, v, "a")
		notThere(t, when, v, "")
		if after := toldOf(s); after != before {
			t.Errorf("%s: behind New:\n%snot\n%s", when, after, before)
		}
	}
}

func TestStoresThatNewDidNotAnswer(t *testing.T) {
	s := fresh(t, 3)
	leaf(t, s, keyZ, "")
	copied, copiedAgain := *s, *s
	copiedAgain = copied
	for when, none := range map[string]*store.Store{"nil": nil, "laid down": {}, "new": new(store.Store), "copied": &copied, "copied twice": &copiedAgain} {
		if v, e := versions.New(none); v != nil || e != api.ErrNil {
			t.Errorf("%s: New = %v, %d", when, v, e)
		}
	}
}

// A store of its own behind the one that was handed in: what is done to the one is not seen in another.
func TestStoresAreByThemselves(t *testing.T) {
	s, other := fresh(t, 5), fresh(t, 5)
	v, w := of(t, s), of(t, other)
	r := leaf(t, s, keyZ, "")
	add(t, v, "a", r)
	notThere(t, "another store's", w, "a")
	notAdd(t, "another store's", w, "a", r, api.ErrMissing)
	q := leaf(t, other, keyY, "y")
	add(t, w, "a", q)
	add(t, w, "b", 0)
	stands(t, "one", v, "a", r)
	stands(t, "other", w, "a b", q, 0)
	drop(t, other, q, 0)
	gone(t, w, "a", 1)
	held(t, "one", s, r, 2, 1)
	held(t, "other", other, q, 0, 0)
}

// The empty tree, a leaf, a tree of many: each stands under a name, held once for it, but for the empty tree.
func TestRootsOfEachKind(t *testing.T) {
	s := fresh(t, 5000)
	v := of(t, s)
	roots := []int{0, leaf(t, s, keyZ, "z")}
	for _, l := range [][]api.Write{pair(keyZ, keyY), pair(keyZ, keyO), many(30, near), many(300, scattered), many(40, ladder)} {
		roots = append(roots, grown(t, s, 0, l...))
	}
	occupied := s.Occupied()
	for i, root := range roots {
		add(t, v, sixteen[i], root)
		if root != 0 {
			held(t, sixteen[i], s, root, 2, occupied)
		}
		if h, e := v.Root(sixteen[i]); h != root || e != api.OK {
			t.Errorf("Root(%q) = %d, %d, not %d", sixteen[i], h, e, root)
		}
	}
	stands(t, "all", v, strings.Join(sixteen[:len(roots)], " "), roots...)
	for i, root := range roots {
		size := len(reached(t, s, root))
		if root != 0 {
			drop(t, s, root, 0)
		}
		gone(t, v, sixteen[i], size)
		notThere(t, "dropped", v, sixteen[i])
	}
	held(t, "at the end", s, 0, 0, 0)
}

// What store.Root refuses is refused with its error, with any name that may be added or moved.
func TestRootsThatAreNone(t *testing.T) {
	s := fresh(t, 9)
	v := of(t, s)
	low := inner(t, s, 1, leaf(t, s, keyZ, ""), leaf(t, s, keyX, ""))
	y := leaf(t, s, keyY, "")
	hold(t, s, low)
	root := inner(t, s, 0, low, y)
	freed := leaf(t, s, keyO, "")
	drop(t, s, freed, 1)
	add(t, v, "there", root)
	add(t, v, "nought", 0)
	for _, h := range append(slices.Clone(strange), freed, 7, 8, 9, 10, 11) {
		notAdd(t, "no node", v, "new", h, api.ErrMissing)
		notMove(t, "no node", v, "there", h, api.ErrMissing)
		notMove(t, "no node", v, "nought", h, api.ErrMissing)
	}
	for range 2 { // held by a caller, too, then as a side alone
		notAdd(t, "of depth 1", v, "new", low, api.ErrArg)
		notMove(t, "of depth 1", v, "there", low, api.ErrArg)
		notMove(t, "of depth 1", v, "nought", low, api.ErrArg)
		if s.Held(low) > 0 {
			drop(t, s, low, 0)
		}
	}
	stands(t, "at the end", v, "nought there", 0, root)
	held(t, "at the end", s, root, 2, 5)
}

// Inner nodes of each depth but 0 are refused, the deepest ones, too.
func TestDepthsOfInnerNodes(t *testing.T) {
	s := fresh(t, 600)
	v := of(t, s)
	root := grown(t, s, 0, pair(keyZ, keyO)...)
	add(t, v, "there", root)
	refused := 0
	for _, h := range s.Handles() {
		if s.Depth(h) > 0 {
			refused++
			notAdd(t, "deeper", v, "new", h, api.ErrArg)
			notMove(t, "deeper", v, "there", h, api.ErrArg)
		}
	}
	if refused != 255 {
		t.Errorf("%d nodes were refused", refused)
	}
}

// A leaf is a root wherever it stands: one that is a side alone is held by its name, and stays without the node above it.
func TestLeafThatIsASide(t *testing.T) {
	s := fresh(t, 9)
	v := of(t, s)
	z, y := leaf(t, s, keyZ, "z"), leaf(t, s, keyY, "y")
	root := inner(t, s, 0, z, y)
	held(t, "ahead", s, z, 0, 3)
	add(t, v, "z", z)
	held(t, "behind", s, z, 1, 3)
	drop(t, s, root, 2)
	stands(t, "the tree is gone", v, "z", z)
	if s.Key(z) != keyZ || string(s.Value(z)) != "z" {
		t.Errorf("Key %x, Value %q", s.Key(z), s.Value(z))
	}
	gone(t, v, "z", 1)
	held(t, "at the end", s, z, 0, 0)
}

// Of each pair of errors, and of more at once, the one that the chapter names first is answered.
func TestWhichErrorComesFirst(t *testing.T) {
	s := fresh(t, 9)
	low := inner(t, s, 1, leaf(t, s, keyZ, ""), leaf(t, s, keyX, ""))
	root := leaf(t, s, keyY, "")
	roots := map[int]api.Errno{0: api.OK, root: api.OK, low: api.ErrArg, 9: api.ErrMissing, -1: api.ErrMissing, 10: api.ErrMissing}
	for _, full := range []bool{false, true} {
		v := of(t, s)
		add(t, v, "a", root)
		if full {
			for _, name := range sixteen[1:] {
				add(t, v, name, 0)
			}
		}
		for h, ofRoot := range roots {
			notAdd(t, "no name", v, "2", h, api.ErrName)
			notAdd(t, "no name", v, "", h, api.ErrName)
			notMove(t, "no name", v, "2", h, api.ErrMissing)
			notMove(t, "missing", v, "missing", h, api.ErrMissing)
			switch {
			case ofRoot != api.OK:
				notAdd(t, "no root", v, "new", h, ofRoot)
				notAdd(t, "no root, a name that is there", v, "a", h, ofRoot)
				notMove(t, "no root", v, "a", h, ofRoot)
			case full:
				notAdd(t, "full", v, "new", h, api.ErrVersions)
				notAdd(t, "full, a name that is there", v, "a", h, api.ErrThere)
			default:
				notAdd(t, "a name that is there", v, "a", h, api.ErrThere)
			}
		}
	}
}

// There may be 16, those of the empty tree counted; a name that was dropped leaves its place.
func TestSixteen(t *testing.T) {
	s := fresh(t, 9)
	r, q := leaf(t, s, keyZ, ""), leaf(t, s, keyY, "")
	for _, order := range orders(sixteen) {
		v := of(t, s)
		var roots []int
		for i, name := range order {
			notThere(t, "not yet", v, name)
			add(t, v, name, []int{0, r, q}[i%3])
			if v.Len() != i+1 {
				t.Fatalf("Len %d behind %d names", v.Len(), i+1)
			}
		}
		for _, name := range sixteen {
			roots = append(roots, []int{0, r, q}[slices.Index(order, name)%3])
		}
		stands(t, "full", v, strings.Join(sixteen, " "), roots...)
		for _, h := range []int{0, r, q} {
			notAdd(t, "full", v, "q", h, api.ErrVersions)
			notAdd(t, "full", v, "aa", h, api.ErrVersions)
			notAdd(t, "full", v, "p", h, api.ErrThere)
		}
		for _, name := range sixteen { // a full one moves as any other
			before, _ := v.Root(name)
			move(t, v, name, r, 0)
			move(t, v, name, before, 0)
		}
		for _, name := range order {
			gone(t, v, name, 0)
			notThere(t, "dropped", v, name)
			add(t, v, "new", r)
			notAdd(t, "full again", v, name, q, api.ErrVersions)
			gone(t, v, "new", 0)
			add(t, v, name, q)
			notAdd(t, "full again", v, "new", r, api.ErrVersions)
		}
		for i, name := range order {
			gone(t, v, name, 0)
			if v.Len() != 15-i {
				t.Fatalf("Len %d", v.Len())
			}
		}
		stands(t, "none", v, "")
	}
	held(t, "at the end", s, r, 1, 2)
	held(t, "at the end", s, q, 1, 2)
}

// Names rise byte by byte, - ahead of digits ahead of letters, a name ahead of those that it begins, in whatever order they came.
func TestNamesRise(t *testing.T) {
	rising := strings.Fields("a a- a-- a-0 a-a a0 a0- a9 aa aaaaaaaaaaaaaaaaaaaa aaaaaaaaaaaaaaaaaaab az b-9 b9- z zz")
	s := fresh(t, 20)
	var roots []int
	for i := range rising {
		roots = append(roots, leaf(t, s, scattered(i), ""))
	}
	for _, order := range orders(rising) {
		v := of(t, s)
		for _, name := range order {
			add(t, v, name, roots[slices.Index(rising, name)])
		}
		for range 20 {
			stands(t, "all", v, strings.Join(rising, " "), roots...)
		}
		for i, name := range order {
			gone(t, v, name, 0)
			var left []string
			var of []int
			for j, name := range rising {
				if !slices.Contains(order[:i+1], name) {
					left, of = append(left, name), append(of, roots[j])
				}
			}
			stands(t, "some", v, strings.Join(left, " "), of...)
		}
	}
}

// orders tells a list as it is, turned round, and in some orders in which no pattern is seen.
func orders(l []string) [][]string {
	back := slices.Clone(l)
	slices.Reverse(back)
	all := [][]string{l, back}
	numbers := chance(5)
	for range 6 {
		some := slices.Clone(l)
		for i := range some {
			j := int(numbers.next()) % len(some)
			some[i], some[j] = some[j], some[i]
		}
		all = append(all, some)
	}
	return all
}

// One root under many names is held once for each; it goes with the last of them.
func TestOneRootUnderManyNames(t *testing.T) {
	s := fresh(t, 9)
	v := of(t, s)
	r := inner(t, s, 0, leaf(t, s, keyZ, ""), leaf(t, s, keyY, ""))
	for i, name := range sixteen {
		add(t, v, name, r)
		held(t, name, s, r, 2+i, 3)
	}
	stands(t, "all", v, strings.Join(sixteen, " "), slices.Repeat([]int{r}, 16)...)
	drop(t, s, r, 0)
	for i, name := range sixteen {
		if i == 15 {
			gone(t, v, name, 3)
			break
		}
		gone(t, v, name, 0)
		held(t, name, s, r, 15-i, 3)
	}
	held(t, "at the end", s, r, 0, 0)
}

// The empty tree under names holds nothing, and nothing becomes free with it.
func TestEmptyTree(t *testing.T) {
	s := fresh(t, 9)
	v := of(t, s)
	r := leaf(t, s, keyZ, "")
	before := toldOf(s)
	add(t, v, "one", 0)
	add(t, v, "two", 0)
	stands(t, "two", v, "one two", 0, 0)
	move(t, v, "one", 0, 0)
	gone(t, v, "two", 0)
	notThere(t, "dropped", v, "two")
	if after := toldOf(s); after != before {
		t.Errorf("the store is\n%snot\n%s", after, before)
	}
	move(t, v, "one", r, 0)
	held(t, "from it", s, r, 2, 1)
	move(t, v, "one", 0, 0)
	held(t, "to it", s, r, 1, 1)
	move(t, v, "one", r, 0)
	drop(t, s, r, 0)
	move(t, v, "one", 0, 1)
	held(t, "to it, the last hold", s, r, 0, 0)
	stands(t, "to it, the last hold", v, "one", 0)
}

// Move to the root that stands there: it is held ahead of being dropped, and so stays.
func TestMoveToTheSameRoot(t *testing.T) {
	s := fresh(t, 9)
	v := of(t, s)
	r := inner(t, s, 0, leaf(t, s, keyZ, ""), leaf(t, s, keyY, ""))
	add(t, v, "a", r)
	move(t, v, "a", r, 0)
	held(t, "a caller holds it", s, r, 2, 3)
	drop(t, s, r, 0)
	before := told(v)
	move(t, v, "a", r, 0)
	if after := told(v); after != before {
		t.Errorf("behind Move:\n%snot\n%s", after, before)
	}
	gone(t, v, "a", 3)
}

// Move to a leaf of the tree that stands there alone: the leaf stays, the others become free.
func TestMoveToAPartOfTheSameTree(t *testing.T) {
	s := fresh(t, 9)
	v := of(t, s)
	z, x, y := leaf(t, s, keyZ, "z"), leaf(t, s, keyX, ""), leaf(t, s, keyY, "")
	r := inner(t, s, 0, inner(t, s, 1, z, x), y)
	add(t, v, "a", r)
	drop(t, s, r, 0)
	move(t, v, "a", z, 4)
	stands(t, "moved", v, "a", z)
	held(t, "moved", s, z, 1, 1)
	if s.Key(z) != keyZ || string(s.Value(z)) != "z" {
		t.Errorf("Key %x, Value %q", s.Key(z), s.Value(z))
	}
	gone(t, v, "a", 1)
}

// How many become free, where others hold a part: trees that share all but a way, by what is dropped and moved.
func TestHowManyBecomeFree(t *testing.T) {
	s := fresh(t, 1200)
	v := of(t, s)
	first := inner(t, s, 0, inner(t, s, 1, leaf(t, s, keyZ, ""), leaf(t, s, keyX, "")), leaf(t, s, keyY, ""))
	add(t, v, "first", first)
	second := grown(t, s, first, api.Write{Key: keyY, Value: []byte("y")}) // shares the node of Z and X
	held(t, "two trees", s, first, 1, 7)
	add(t, v, "second", second)
	third := grown(t, s, second, api.Write{Key: keyZ, Gone: true}) // shares Y's and X's leaves
	held(t, "three trees", s, third, 1, 8)
	add(t, v, "third", third)
	drop(t, s, third, 0)
	stands(t, "three trees", v, "first second third", first, second, third)

	gone(t, v, "second", 1)       // its top alone
	move(t, v, "first", third, 4) // its top, Y's leaf, the node of Z and X, Z's leaf
	held(t, "two names", s, third, 2, 3)
	move(t, v, "third", 0, 0)
	gone(t, v, "third", 0)
	held(t, "one name", s, third, 1, 3)
	x, _ := s.Sides(third)
	add(t, v, "x", x)
	gone(t, v, "first", 2)
	stands(t, "one leaf", v, "x", x)
	gone(t, v, "x", 1)
	held(t, "at the end", s, x, 0, 0)
}

// A root under a name stays with all below it, whatever callers drop that was theirs, and whatever takes the slots that became free.
func TestCallersDropAll(t *testing.T) {
	for kind, key := range kinds {
		s := fresh(t, 12000)
		v := of(t, s)
		w := many(40, key)
		root := grown(t, s, 0, w...)
		add(t, v, "kept", root)
		digest, entries, nodes := s.Digest(root), entriesOf(s, root), reached(t, s, root)
		for i := range 60 { // the caller's own hold goes over, from root to root, and at last nowhere
			l := []api.Write{{Key: key(i), Value: fmt.Append(nil, "anew ", i)}, {Key: scattered(i)}}
			root = grown(t, s, root, l...)
		}
		drop(t, s, root, s.Occupied()-len(nodes))
		for i := range 500 {
			leaf(t, s, scattered(i), "another")
		}
		kept, e := v.Root("kept")
		if e != api.OK || s.Digest(kept) != digest || !slices.EqualFunc(entriesOf(s, kept), entries, likePairs) || !slices.Equal(reached(t, s, kept), nodes) {
			t.Fatalf("%s: what stands under the name is another one", kind)
		}
		sound(t, kind, s, kept)
		gone(t, v, "kept", len(nodes))
		held(t, kind, s, kept, 0, 500)
	}
}

// Versions of one store side by side: each has its own names, and holds for itself.
func TestTwoOfOneStore(t *testing.T) {
	s := fresh(t, 9)
	v, w := of(t, s), of(t, s)
	r, q := leaf(t, s, keyZ, ""), leaf(t, s, keyY, "")
	add(t, v, "a", r)
	notThere(t, "the other's", w, "a")
	add(t, w, "a", r)
	held(t, "both", s, r, 3, 2)
	add(t, w, "b", q)
	notThere(t, "the other's", v, "b")
	drop(t, s, r, 0)
	drop(t, s, q, 0)
	move(t, w, "a", q, 0)
	stands(t, "one", v, "a", r)
	stands(t, "other", w, "a b", q, q)
	gone(t, v, "a", 1)
	notThere(t, "dropped", v, "a")
	stands(t, "other", w, "a b", q, q)
	for _, name := range sixteen {
		add(t, v, name, q)
	}
	add(t, w, "c", 0) // 16 of the one are none of the other's
	for _, name := range sixteen {
		gone(t, v, name, 0)
	}
	gone(t, w, "a", 0)
	gone(t, w, "b", 1)
	held(t, "at the end", s, q, 0, 0)
	stands(t, "at the end", w, "c", 0)
}

// A hold that the store refuses is answered behind all other errors, and changes nothing; one less and it is taken.
func TestGreatestCount(t *testing.T) {
	if testing.Short() {
		t.Skip("it takes some seconds")
	}
	s := fresh(t, 9)
	v := of(t, s)
	r, q := leaf(t, s, keyZ, ""), leaf(t, s, keyY, "")
	for range api.MaxCount - 2 {
		s.Hold(r)
	}
	add(t, v, "a", r)
	held(t, "at its greatest", s, r, api.MaxCount, 2)
	add(t, v, "b", q)
	add(t, v, "c", 0)
	notAdd(t, "at its greatest", v, "d", r, api.ErrLong)
	notMove(t, "the same", v, "a", r, api.ErrLong)
	notMove(t, "from another", v, "b", r, api.ErrLong)
	notMove(t, "from none", v, "c", r, api.ErrLong)
	notAdd(t, "no name", v, "2", r, api.ErrName)
	notAdd(t, "a name that is there", v, "b", r, api.ErrThere)
	notMove(t, "missing", v, "d", r, api.ErrMissing)
	for _, name := range sixteen[3:] {
		add(t, v, name, q)
	}
	notAdd(t, "full", v, "new", r, api.ErrVersions)
	notAdd(t, "full, a name that is there", v, "b", r, api.ErrThere)
	notMove(t, "full", v, "p", r, api.ErrLong)

	move(t, v, "a", 0, 0)
	move(t, v, "b", r, 0)
	held(t, "at its greatest again", s, r, api.MaxCount, 2)
	notMove(t, "at its greatest again", v, "a", r, api.ErrLong)
	gone(t, v, "b", 0)
	add(t, v, "b", r)
	gone(t, v, "p", 0)
	notAdd(t, "at its greatest again", v, "p", r, api.ErrLong)
	drop(t, s, r, 0)
	add(t, v, "p", r)
	held(t, "a caller's hold less", s, r, api.MaxCount, 2)

	// A count is at its greatest by a side, too: of the leaf's holds one is a node's.
	root := inner(t, s, 0, r, leaf(t, s, keyY, "side"))
	held(t, "a side", s, r, api.MaxCount-1, 4)
	notMove(t, "a side", v, "a", r, api.ErrLong)
	move(t, v, "a", root, 0)
	held(t, "a side", s, root, 2, 4)
}

// Callers who drop more than was theirs, too, find that every call ends with an answer: the name is there till it is dropped.
func TestCallersDropMoreThanTheirs(t *testing.T) {
	s := fresh(t, 9)
	v := of(t, s)
	r := leaf(t, s, keyZ, "")
	for _, name := range []string{"a", "b"} {
		add(t, v, name, r)
	}
	drop(t, s, r, 0)
	drop(t, s, r, 0)
	drop(t, s, r, 1)
	stands(t, "gone", v, "a b", r, r)
	notAdd(t, "gone", v, "c", r, api.ErrMissing)
	notMove(t, "gone", v, "a", r, api.ErrMissing)
	move(t, v, "a", 0, 0)
	gone(t, v, "b", 0)
	stands(t, "gone", v, "a", 0)
}

// What Names and Roots answered may be written over, their spare room, too: nothing else is changed by it.
func TestAnswersAreNewMemory(t *testing.T) {
	s := fresh(t, 9)
	v := of(t, s)
	r := leaf(t, s, keyZ, "")
	for i, name := range sixteen[:11] {
		add(t, v, name, []int{0, r}[i%2])
	}
	before := told(v)
	names, roots := v.Names(), v.Roots()
	otherNames, otherRoots := v.Names(), v.Roots()
	for i := range names[:cap(names)] {
		names[:cap(names)][i] = "written over"
	}
	for i := range roots[:cap(roots)] {
		roots[:cap(roots)][i] = -7
	}
	if after := told(v); after != before {
		t.Errorf("behind writing over answers:\n%snot\n%s", after, before)
	}
	if slices.Contains(otherNames[:cap(otherNames)], "written over") || slices.Contains(otherRoots[:cap(otherRoots)], -7) {
		t.Error("two answers share memory")
	}
	// What was answered stays, whatever is done later.
	gone(t, v, "a", 0)
	move(t, v, "b", 0, 0)
	if !slices.Equal(otherNames, sixteen[:11]) || otherRoots[1] != r {
		t.Errorf("an answer of before is %q, %v", otherNames, otherRoots)
	}
}

// A name that is a piece of another text is kept without that text.
func TestNameIsNotKept(t *testing.T) {
	s := fresh(t, 9)
	v := of(t, s)
	text := []byte("one two")
	name := unsafe.String(&text[0], 3)
	add(t, v, name, 0)
	move(t, v, name, leaf(t, s, keyZ, ""), 0)
	copy(text, "xxxxxxx")
	stands(t, "the text is written over", v, "one", 1)
	notThere(t, "the text is written over", v, "xxx")
	gone(t, v, "one", 0)
}

// none are versions that New did not answer.
func none(v *versions.Versions) map[string]*versions.Versions {
	copied := *v
	copiedAgain := copied
	return map[string]*versions.Versions{"nil": nil, "laid down": {}, "new": new(versions.Versions), "copied": &copied, "copied twice": &copiedAgain}
}

// Each method of versions that New did not answer answers ErrNil, ahead of all else, or zero values.
func TestVersionsThatNewDidNotAnswer(t *testing.T) {
	s := fresh(t, 9)
	v := of(t, s)
	r, q := leaf(t, s, keyZ, ""), leaf(t, s, keyY, "")
	add(t, v, "a", r)
	add(t, v, "b", 0)
	before := told(v)
	for when, no := range none(v) {
		if l := no.Names(); len(l) != 0 {
			t.Errorf("%s: Names %q", when, l)
		}
		if l := no.Roots(); len(l) != 0 {
			t.Errorf("%s: Roots %v", when, l)
		}
		if no.Len() != 0 || no.Store() != nil {
			t.Errorf("%s: Len %d, Store %v", when, no.Len(), no.Store())
		}
		for _, name := range []string{"a", "b", "c", "", "2", "\xff", strings.Repeat("a", 21)} {
			if h, e := no.Root(name); h != 0 || e != api.ErrNil {
				t.Errorf("%s: Root(%q) = %d, %d", when, name, h, e)
			}
			if n, e := no.Drop(name); n != 0 || e != api.ErrNil {
				t.Errorf("%s: Drop(%q) = %d, %d", when, name, n, e)
			}
			for _, root := range append(slices.Clone(strange), 0, r, q, 9, 10) {
				if e := no.Add(name, root); e != api.ErrNil {
					t.Errorf("%s: Add(%q, %d) = %d", when, name, root, e)
				}
				if n, e := no.Move(name, root); n != 0 || e != api.ErrNil {
					t.Errorf("%s: Move(%q, %d) = %d, %d", when, name, root, n, e)
				}
			}
		}
		if after := told(v); after != before {
			t.Errorf("%s: those that were made are\n%snot\n%s", when, after, before)
		}
	}
	gone(t, v, "a", 0) // those that were copied are still themselves
	add(t, v, "c", q)
	stands(t, "at the end", v, "b c", 0, q)
}
