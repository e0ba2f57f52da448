package concept_test

import (
	"math/rand"
	"testing"

	"isagoge/api"
	"isagoge/concept"
)

// P1.2: the rules of the negation normal form.
func TestNormal(t *testing.T) {
	a, b := name(0), name(1)
	for _, c := range []struct {
		label              string
		c, normal, negated api.Concept
	}{
		{"name", a, a, not(a)},
		{"top", top(), top(), bot()},
		{"bot", bot(), bot(), top()},
		{"not name", not(b), not(b), b},
		{"not top", not(top()), bot(), top()},
		{"not bot", not(bot()), top(), bot()},
		{"not not", not(not(a)), a, not(a)},
		{"not not not", not(not(not(a))), not(a), a},
		{"not not not not", not(not(not(not(a)))), a, not(a)},
		{"and", and(a, b), and(a, b), or(not(a), not(b))},
		{"or", or(b, a), or(b, a), and(not(b), not(a))},
		{"some", some(2, a), some(2, a), all(2, not(a))},
		{"all", all(3, a), all(3, a), some(3, not(a))},
		{"not and", not(and(a, b)), or(not(a), not(b)), and(a, b)},
		{"not or", not(or(a, b)), and(not(a), not(b)), or(a, b)},
		{"not some", not(some(0, a)), all(0, not(a)), some(0, a)},
		{"not all", not(all(1, a)), some(1, not(a)), all(1, a)},
		{"below", and(not(not(a)), not(or(top(), b))), and(a, and(bot(), not(b))), or(not(a), or(top(), b))},
		{"mixed", some(1, not(all(2, and(not(a), bot())))), some(1, some(2, or(a, top()))), all(1, all(2, and(not(a), bot())))},
		{"the example", not(some(1, and(a, not(b)))), all(1, or(not(a), b)), some(1, and(a, not(b)))},
		{"no simplification", and(top(), and(a, a)), and(top(), and(a, a)), or(bot(), or(not(a), not(a)))},
	} {
		got, e := concept.Normal(names(), c.c)
		expect(t, "Normal of "+c.label, got, e, c.normal, api.OK)
		got, e = concept.Not(names(), c.c)
		expect(t, "Not of "+c.label, got, e, c.negated, api.OK)
	}
}

// P1.2: results that are too large or too deep.
func TestNormalLarge(t *testing.T) {
	a := name(0)
	// A conjunction of 133 names has 265 nodes, its negation 398.
	fits := and(bushy(133, a), top())
	for _, c := range []struct {
		label       string
		c           api.Concept
		normal, not api.Errno
	}{
		{"398 nodes when negated", bushy(133, a), api.OK, api.OK},
		{"400 nodes when negated", fits, api.OK, api.OK},
		{"401 nodes when negated", all(0, fits), api.OK, api.ErrLarge},
		{"599 nodes when negated", bushy(200, a), api.OK, api.ErrLarge},
		{"400 nodes in normal form", not(fits), api.OK, api.OK},
		{"401 nodes in normal form", not(some(0, fits)), api.ErrLarge, api.OK},
		{"401 nodes in normal form, inside", some(0, not(fits)), api.ErrLarge, api.OK},
		{"599 nodes in normal form", not(bushy(200, a)), api.ErrLarge, api.OK},
		{"depth 20, a name", chain(20, someR, a), api.OK, api.ErrLarge},
		{"depth 20, a name on the right", or(top(), chain(19, someR, a)), api.OK, api.ErrLarge},
		{"depth 20, top", chain(20, someR, top()), api.OK, api.OK},
		{"depth 20, a negated name", chain(19, someR, not(a)), api.OK, api.OK},
		{"depth 20, negated", not(chain(19, someR, a)), api.OK, api.OK},
		{"depth 19, a name", chain(19, someR, a), api.OK, api.OK},
	} {
		got, e := concept.Normal(names(), c.c)
		checkLarge(t, "Normal of "+c.label, got, e, c.normal)
		got, e = concept.Not(names(), c.c)
		checkLarge(t, "Not of "+c.label, got, e, c.not)
	}
}

func checkLarge(t *testing.T, label string, got api.Concept, e, want api.Errno) {
	t.Helper()
	if e != want {
		t.Errorf("%s: error %d, not %d", label, e, want)
	}
	if e == api.OK && !inNormalForm(got) || e != api.OK && !equal(got, api.Concept{}) {
		t.Errorf("%s: error %d with %s", label, e, shown(got))
	}
}

// P1.2 (and R1): the errors of the arguments come first.
func TestNormalErrors(t *testing.T) {
	for _, c := range refused() {
		got, e := concept.Normal(c.n, c.c)
		expect(t, "Normal", got, e, api.Concept{}, c.want)
		got, e = concept.Not(c.n, c.c)
		expect(t, "Not", got, e, api.Concept{}, c.want)
	}
}

// inNormalForm reports whether CNot is only directly above a CName.
func inNormalForm(c api.Concept) bool {
	if c.Op == api.CNot {
		return c.Args[0].Op == api.CName
	}
	for _, arg := range c.Args {
		if !inNormalForm(arg) {
			return false
		}
	}
	return true
}

// P1.6: Normal of Normal is Normal, and Not of Not is Normal.
func TestNormalTwice(t *testing.T) {
	for _, c := range someConcepts(2000, 6) {
		normal, e := concept.Normal(names(), c)
		if e != api.OK || !inNormalForm(normal) {
			t.Fatalf("Normal of %s: %s, error %d", shown(c), shown(normal), e)
		}
		again, e := concept.Normal(names(), normal)
		expect(t, "Normal of Normal of "+shown(c), again, e, normal, api.OK)
		negated, e := concept.Not(names(), c)
		if e != api.OK || !inNormalForm(negated) {
			t.Fatalf("Not of %s: %s, error %d", shown(c), shown(negated), e)
		}
		again, e = concept.Not(names(), negated)
		expect(t, "Not of Not of "+shown(c), again, e, normal, api.OK)
	}
}

// A world is an interpretation of names: which elements (a bit each) belong to
// each concept name, and which ones each role leads to from each element.
type world struct {
	size     int
	concepts [3]uint
	roles    [4][]uint
}

func randomWorld(r *rand.Rand) world {
	w := world{size: 1 + r.Intn(4)}
	for i := range w.concepts {
		w.concepts[i] = uint(r.Intn(1 << w.size))
	}
	for i := range w.roles {
		w.roles[i] = make([]uint, w.size)
	}
	for x := range w.size * w.size {
		for i := 0; i < 4; i += 2 {
			if from, to := x/w.size, x%w.size; r.Intn(3) == 0 {
				w.roles[i][from] |= 1 << to
				w.roles[i+1][to] |= 1 << from
			}
		}
	}
	return w
}

// elements returns the elements of c by the definition.
func (w world) elements(c api.Concept) uint {
	every := uint(1)<<w.size - 1
	switch c.Op {
	case api.CName:
		return w.concepts[c.N]
	case api.CTop:
		return every
	case api.CBot:
		return 0
	case api.CNot:
		return every &^ w.elements(c.Args[0])
	case api.CAnd:
		return w.elements(c.Args[0]) & w.elements(c.Args[1])
	case api.COr:
		return w.elements(c.Args[0]) | w.elements(c.Args[1])
	}
	inside := w.elements(c.Args[0])
	found := uint(0)
	for x, next := range w.roles[c.N] {
		if c.Op == api.CSome && next&inside != 0 || c.Op == api.CAll && next&^inside == 0 {
			found |= 1 << x
		}
	}
	return found
}

// P1.6: Normal has the same elements in every interpretation, Not the others.
func TestNormalElements(t *testing.T) {
	r := rand.New(rand.NewSource(2))
	for _, c := range someConcepts(1000, 5) {
		normal, e := concept.Normal(names(), c)
		if e != api.OK {
			t.Fatal(e)
		}
		negated, e := concept.Not(names(), c)
		if e != api.OK {
			t.Fatal(e)
		}
		for range 10 {
			w := randomWorld(r)
			inside := w.elements(c)
			if w.elements(normal) != inside {
				t.Errorf("Normal of %s: %s has other elements", shown(c), shown(normal))
			}
			if w.elements(negated) != uint(1)<<w.size-1-inside {
				t.Errorf("Not of %s: %s does not have the other elements", shown(c), shown(negated))
			}
		}
	}
}
