package extract_test

import (
	"bytes"
	"encoding/json"
	"fmt"
	"os"
	"os/exec"
	"path/filepath"
	"strings"
	"testing"

	"rootcellar/api"
	"rootcellar/extract"
	"rootcellar/pack"
	"rootcellar/sha"
	"rootcellar/tag"
	"rootcellar/verify"
)

// fewBits stands in for package sha where texts must clash: digests of eight bits, by which each call goes as it does by others.
const fewBits = `package sha

import "rootcellar/api"

type State struct{ word uint32 }

func New() *State { return &State{2166136261} }

func (s *State) Write(b []byte) int {
	for _, x := range b {
		s.word = (s.word ^ uint32(x)) * 16777619
	}
	return len(b)
}

func (s *State) Sum() api.Hash {
	x := s.word
	return api.Hash{byte(x ^ x>>8 ^ x>>16 ^ x>>24)}
}

func Sum(b []byte) api.Hash {
	s := New()
	s.Write(b)
	return s.Sum()
}
`

// No two texts with one SHA-256 digest are known, so no claims that are unlike and accepted can be told, nor proofs that part below the top. By digests of few bits they can: this builds the packages once more, on such ones, and runs TestClashesOfFewBits there.
func TestClashes(t *testing.T) {
	command, err := exec.LookPath("go")
	if err != nil {
		t.Skip("no go command to build with")
	}
	dir := t.TempDir()
	weak, overlay := filepath.Join(dir, "sha.go"), filepath.Join(dir, "overlay.json")
	files, err := filepath.Glob(filepath.Join("..", "sha", "*.go"))
	if err != nil || len(files) == 0 {
		t.Fatal(files, err)
	}
	replace := map[string]string{}
	for _, f := range files {
		abs, err := filepath.Abs(f)
		if err != nil {
			t.Fatal(err)
		}
		replace[abs] = "" // as if it were not there
		if filepath.Base(f) == "sha.go" {
			replace[abs] = weak
		}
	}
	told, err := json.Marshal(map[string]map[string]string{"Replace": replace})
	if err != nil {
		t.Fatal(err)
	}
	write(t, weak, []byte(fewBits))
	write(t, overlay, told)
	out, err := exec.Command(command, "test", "-vet=off", "-v", "-overlay", overlay, "-run", "^TestClashesOfFewBits$", ".").CombinedOutput()
	if err != nil || !strings.Contains(string(out), "--- PASS: TestClashesOfFewBits") {
		t.Fatalf("%v: %s", err, out)
	}
}

func write(t testing.TB, name string, b []byte) {
	t.Helper()
	if err := os.WriteFile(name, b, 0o600); err != nil {
		t.Fatal(err)
	}
}

// proven is a claim of a key that is accepted under a root, and the proof behind its bytes.
type proven struct {
	root  api.Hash
	claim api.Claim
	p     api.Proof
}

// provenOf makes the claim that a proof's end makes of a key.
func provenOf(t testing.TB, key api.Path, p api.Proof, value []byte) proven {
	t.Helper()
	b, e := pack.Encode(p)
	if e != api.OK {
		t.Fatal(e)
	}
	root := sha.Sum(textsOf(digits(key), p.Sides, p.End)[0])
	one := proven{root, api.Claim{There: p.End.Kind == api.Leaf && p.End.Key == key, Value: value, Bytes: b}, p}
	accepted(t, "drawn", right{root, key, one.claim}, true)
	return one
}

// drawnClaim draws one: few sides of few digests, so that many ways go on together.
func (c *chance) drawnClaim(t testing.TB, key api.Path) proven {
	t.Helper()
	n := []int{0, 0, 1, 1, 2, 2, 3, 3, 4, 5, 9}[c.below(11)]
	if c.below(40) == 0 {
		n = 255 + c.below(2)
	}
	p := api.Proof{Sides: make([]api.Hash, n)}
	for i := range p.Sides {
		p.Sides[i] = [3]api.Hash{tag.Empty(), {1}, {2}}[c.below(3)]
	}
	value := c.drawnValue()
	switch kind := c.below(4); {
	case kind < 2:
		p.End = leaf(key, tag.Value(value))
	case kind == 2 && n < 256:
		p.End = leaf(flip(key, n+c.below(256-n)), tag.Value(value))
	}
	return provenOf(t, key, p, value)
}

// drawnValue draws one of few bytes, or one of 1,024, of those that have one of sixteen digests: many have one.
func (c *chance) drawnValue() []byte {
	for {
		v := make([]byte, c.below(4))
		for i := range v {
			v[i] = byte(c.next())
		}
		if c.below(100) == 0 {
			v = append(longest[:1022:1022], byte(c.next()), byte(c.next()))
		}
		if valueOf(v)[0] < 16 {
			return v
		}
	}
}

// partOf tells in which texts two proofs part, and at which depth, in the document's words.
func partOf(key api.Path, p, q api.Proof) (api.Clash, int) {
	one, two := textsOf(digits(key), p.Sides, p.End), textsOf(digits(key), q.Sides, q.End)
	for d := 0; d < len(one) && d < len(two); d++ {
		if !bytes.Equal(one[d], two[d]) {
			return api.Clash{One: one[d], Two: two[d]}, d
		}
	}
	return api.Clash{}, -1
}

// clashByWords tells what Clash should answer of two claims that are accepted, in the document's words, and of which kind that is.
func clashByWords(key api.Path, a, b proven) (api.Clash, string) {
	one, two := a.claim, b.claim
	c, _ := partOf(key, a.p, b.p)
	switch {
	case one.There && !two.There:
		return c, "there, absent"
	case two.There && !one.There:
		return c, "absent, there"
	case !one.There:
		return api.Clash{}, "both absent"
	case bytes.Equal(one.Value, two.Value):
		return api.Clash{}, "one value"
	case valueOf(one.Value) != valueOf(two.Value):
		return c, "values"
	}
	c = api.Clash{One: append([]byte{3}, one.Value...), Two: append([]byte{3}, two.Value...)}
	if bytes.Equal(one.Bytes, two.Bytes) {
		return c, "values of one digest, one proof"
	}
	return c, "values of one digest"
}

// TestClashesOfFewBits runs by digests of few bits alone. Of drawn claims: whenever two are accepted under one root and are unlike, two unlike texts with one digest are handed out, the ones that the words want, whichever of the claims stands ahead; otherwise nothing is.
func TestClashesOfFewBits(t *testing.T) {
	if tag.Empty() == empty {
		t.Skip("TestClashes runs this")
	}
	c, kinds, depths := chance(19), map[string]int{}, map[string]int{}
	for i, key := range []api.Path{keyZ, keyO, keyX, keyN, scattered(1), scattered(2)} {
		byRoot := map[api.Hash][]proven{}
		for range 500 {
			one := c.drawnClaim(t, key)
			byRoot[one.root] = append(byRoot[one.root], one)
			chained(t, "drawn", key, one.claim.Bytes)
		}
		for root, l := range byRoot {
			for j := range l {
				k := c.below(len(l))
				clashes(t, key, root, l[j], l[k], kinds, depths)
				clashes(t, key, root, l[k], l[j], kinds, depths)
				if j%4 == 0 {
					spoilt(t, key, root, l[j], l[k])
				}
				if other := sameDigest(&c, l[j]); i%2 == 0 && l[j].claim.There {
					clashes(t, key, root, l[j], other, kinds, depths)
				}
			}
		}
	}
	for _, kind := range []string{"there, absent", "absent, there", "both absent", "one value", "values", "values of one digest", "values of one digest, one proof"} {
		if kinds[kind] < 20 {
			t.Errorf("of the kind %q there are %d", kind, kinds[kind])
		}
	}
	for _, depth := range []string{"nowhere", "at the first of some", "between", "at the last", "where one ends"} {
		if depths[depth] < 20 {
			t.Errorf("that part %s there are %d", depth, depths[depth])
		}
	}
	t.Log(kinds, depths)
}

// sameDigest tells a claim of another value with the same digest, on the same proof.
func sameDigest(c *chance, a proven) proven {
	for {
		v := c.drawnValue()
		if valueOf(v) == valueOf(a.claim.Value) && !bytes.Equal(v, a.claim.Value) {
			a.claim.Value = v
			return a
		}
	}
}

// clashes holds Clash and Part of two claims that are accepted under one root against the words, and counts of which kind they are.
func clashes(t testing.TB, key api.Path, root api.Hash, a, b proven, kinds, depths map[string]int) {
	t.Helper()
	want, kind := clashByWords(key, a, b)
	kinds[kind]++
	c, ok := extract.Clash(root, key, a.claim, b.claim)
	if unlike := kind != "both absent" && kind != "one value"; ok != unlike || !isClash(c, want) || tag.Clash(c) != unlike {
		t.Fatalf("%s: Clash(%x, %x, %s, %s) = %x, %x, %t, not %x, %x", kind, root, key, said(a.claim), said(b.claim), c.One, c.Two, ok, want.One, want.Two)
	}
	want, at := partOf(key, a.p, b.p)
	depths[depthOf(at, len(a.p.Sides), len(b.p.Sides))]++
	parts(t, kind, key, a.claim.Bytes, b.claim.Bytes, want, at)
}

// depthOf tells where proofs of so many sides part.
func depthOf(at, n, m int) string {
	switch last := min(n, m); {
	case at == -1:
		return "nowhere"
	case at < last && at == 0:
		return "at the first of some"
	case at < last:
		return "between"
	case n != m:
		return "where one ends"
	}
	return "at the last"
}

// spoilt sees that two claims hand out nothing any more, if the first one, the second one or both are not accepted: under another root, with the other thing said, with a value that is too long though it has the digest, with bytes that go on.
func spoilt(t testing.TB, key api.Path, root api.Hash, a, b proven) {
	t.Helper()
	noClash(t, "another root", flip(root, 0), key, a.claim, b.claim)
	noClash(t, "another root", flip(root, 255), key, a.claim, b.claim)
	for i, spoil := range []func(api.Claim) api.Claim{
		func(c api.Claim) api.Claim { c.There = !c.There; return c },
		func(c api.Claim) api.Claim { c.Bytes = append(bytes.Clone(c.Bytes), 0); return c },
		func(c api.Claim) api.Claim { c.Bytes = nil; return c },
		func(c api.Claim) api.Claim { c.There, c.Value = true, longValue(c.Value); return c },
	} {
		one, two := spoil(a.claim), spoil(b.claim)
		if verify.Present(root, key, one.Value, one.Bytes) && one.There || verify.Present(root, key, two.Value, two.Bytes) && two.There {
			t.Fatalf("spoilt by %d: %s or %s is accepted", i, said(one), said(two))
		}
		noClash(t, fmt.Sprint("the first spoilt by ", i), root, key, one, b.claim)
		noClash(t, fmt.Sprint("the second spoilt by ", i), root, key, a.claim, two)
		noClash(t, fmt.Sprint("both spoilt by ", i), root, key, one, two)
	}
}

// longValue tells a value of more than 1,024 bytes with the digest of another one.
func longValue(v []byte) []byte {
	for i := 0; ; i++ {
		if l := append(bytes.Clone(tooLong), byte(i), byte(i>>8)); valueOf(l) == valueOf(v) {
			return l
		}
	}
}
