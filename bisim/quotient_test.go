package bisim_test

import (
	"math/rand"
	"slices"
	"testing"

	"isagoge/api"
	"isagoge/bisim"
	"isagoge/interp"
	"isagoge/kb"
)

// quotient returns the quotient, by the definition.
func quotient(n api.Names, i api.Interp) api.Interp {
	class := classes(i)
	var inds []int
	for _, x := range i.Inds {
		inds = append(inds, class[x])
	}
	some := func(wanted func(x int) bool) bool {
		for x := range i.Size {
			if wanted(x) {
				return true
			}
		}
		return false
	}
	return built(n, slices.Max(class)+1,
		func(name, c int) bool { return some(func(x int) bool { return class[x] == c && named(i, name, x) }) },
		func(role, c, d int) bool {
			return some(func(x int) bool {
				return class[x] == c && some(func(y int) bool { return class[y] == d && isPair(i, 2*role, x, y) })
			})
		}, inds...)
}

func checkQuotient(t *testing.T, n api.Names, i, want api.Interp) {
	t.Helper()
	got, e := bisim.Quotient(n, i)
	expect(t, "Quotient of "+shown(i), got, e, want, api.OK)
}

// P4.2: the chapter's example, an element without anything, individuals in one
// class, and lists whose order changes with the numbers.
func TestQuotient(t *testing.T) {
	checkQuotient(t, plain(), fork(), api.Interp{Size: 2, Concepts: [][]int{{1}}, Roles: [][][2]int{{{0, 1}}}})
	checkQuotient(t, api.Names{}, api.Interp{Size: 1}, api.Interp{Size: 1})
	checkQuotient(t, api.Names{}, api.Interp{Size: 256}, api.Interp{Size: 1})
	checkQuotient(t, names(), api.Interp{Size: 3, Concepts: make([][]int, 2), Roles: make([][][2]int, 2), Inds: []int{1, 2}},
		api.Interp{Size: 1, Concepts: make([][]int, 2), Roles: make([][][2]int, 2), Inds: []int{0, 0}})
	checkQuotient(t, names(),
		api.Interp{Size: 6, Concepts: [][]int{{1, 2, 5}, {1, 5}}, Roles: [][][2]int{{{1, 3}, {5, 0}, {5, 3}}, {{0, 2}, {2, 1}, {2, 5}, {3, 2}}}, Inds: []int{5, 3}},
		api.Interp{Size: 4, Concepts: [][]int{{1, 2}, {1}}, Roles: [][][2]int{{{1, 0}}, {{0, 2}, {2, 1}}}, Inds: []int{1, 0}})
	checkQuotient(t, plain(), path(256), path(256))
}

// P4.2: all interpretations of a concept name and a role with at most three
// elements, and random ones, as the definition says.
func TestQuotientByDefinition(t *testing.T) {
	for size := 1; size <= 3; size++ {
		eachPlain(size, func(i api.Interp) { checkQuotient(t, plain(), i, quotient(plain(), i)) })
	}
	r := rand.New(rand.NewSource(5))
	smaller := 0
	for range 600 {
		i := randomInterp(r, names(), 9)
		want := quotient(names(), i)
		checkQuotient(t, names(), i, want)
		if want.Size < i.Size {
			smaller++
		}
	}
	if smaller < 100 {
		t.Errorf("only %d quotients were smaller", smaller)
	}
}

// P4.5, P4.6: an element and its class are bisimilar, a quotient is one of its
// own, and no two of its elements are bisimilar.
func TestQuotientOfQuotient(t *testing.T) {
	r := rand.New(rand.NewSource(6))
	for range 300 {
		i := randomInterp(r, names(), 9)
		q, _ := bisim.Quotient(names(), i)
		again, e := bisim.Quotient(names(), q)
		expect(t, "Quotient of "+shown(q), again, e, q, api.OK)
		class, _ := bisim.Classes(names(), i)
		for x := range i.Size {
			for y := range q.Size {
				got, e := bisim.Bisimilar(names(), i, q, x, y)
				expect(t, "Bisimilar of "+shown(i)+" and its quotient", got, e, class[x] == y, api.OK)
			}
		}
	}
}

// P4.6: the quotient satisfies the same inclusions and facts, and all links and
// role inclusions that the interpretation satisfies.
func TestQuotientSatisfies(t *testing.T) {
	r := rand.New(rand.NewSource(7))
	var met [4][2]int
	for range 400 {
		i := randomInterp(r, names(), 6)
		q, _ := bisim.Quotient(names(), i)
		b := api.Base{Names: names()}
		for range 5 {
			b.Incls = append(b.Incls, api.Incl{Sub: randomConcept(r, 3), Super: randomConcept(r, 3)})
			b.Roles = append(b.Roles, api.RoleIncl{Sub: r.Intn(4), Super: r.Intn(4)})
			b.Facts = append(b.Facts, api.Fact{Ind: r.Intn(2), Concept: randomConcept(r, 3)})
			b.Links = append(b.Links, api.Link{Role: r.Intn(2), From: r.Intn(2), To: r.Intn(2)})
		}
		for k := range 20 {
			before, _ := interp.True(b, i, k)
			after, e := interp.True(b, q, k)
			if before && !after || k/5%2 == 0 && before != after || e != api.OK {
				line, _ := kb.Line(b, k)
				t.Errorf("%s in %v: %v; in the quotient: %v, error %d", line, i, before, after, e)
			}
			if before {
				met[k/5][1]++
			} else {
				met[k/5][0]++
			}
		}
	}
	for kind, counts := range met {
		if min(counts[0], counts[1]) < 100 {
			t.Errorf("axioms of kind %d were false and true: %v", kind, counts)
		}
	}
}
