package interp_test

import (
	"fmt"
	"math/rand"
	"slices"
	"testing"

	"isagoge/api"
	"isagoge/concept"
)

// names has three concept names, two roles and two individuals.
func names() api.Names {
	return api.Names{Concepts: []string{"A", "B", "C1"}, Roles: []string{"r", "s_2"}, Inds: []string{"a", "b_1"}}
}

// of returns the concept of a string over names.
func of(s string) api.Concept {
	c, e := concept.Parse(names(), s)
	if e != api.OK {
		panic(s)
	}
	return c
}

// three is an interpretation of names with three elements.
func three() api.Interp {
	return api.Interp{
		Size:     3,
		Concepts: [][]int{{0, 2}, {1}, {}},
		Roles:    [][][2]int{{{0, 1}, {0, 2}, {1, 2}, {2, 2}}, {{1, 0}, {2, 0}}},
		Inds:     []int{2, 0},
	}
}

// single is an interpretation of names with one element and empty lists.
func single() api.Interp {
	return api.Interp{Size: 1, Concepts: make([][]int, 3), Roles: make([][][2]int, 2), Inds: []int{0, 0}}
}

// path is an interpretation of names with 256 elements: r leads from each one
// to the next one, s_2 from each one to each; A are the even ones, B is the
// last one, and C1 are all; a is the first one, b_1 the last one.
func path() api.Interp {
	i := api.Interp{Size: 256, Concepts: [][]int{nil, {255}, nil}, Roles: make([][][2]int, 2), Inds: []int{0, 255}}
	for x := range 256 {
		if x%2 == 0 {
			i.Concepts[0] = append(i.Concepts[0], x)
		}
		if x < 255 {
			i.Roles[0] = append(i.Roles[0], [2]int{x, x + 1})
		}
		i.Concepts[2] = append(i.Concepts[2], x)
		for y := range 256 {
			i.Roles[1] = append(i.Roles[1], [2]int{x, y})
		}
	}
	return i
}

// wrongNames are lists of names that are not valid.
func wrongNames() []api.Names {
	return []api.Names{
		{Concepts: []string{"A", "B", "A"}, Roles: []string{"r", "s_2"}, Inds: []string{"a", "b_1"}},
		{Concepts: []string{"A", "B", "C1"}, Roles: []string{"r", "some"}, Inds: []string{"a", "b_1"}},
		{Concepts: []string{"A", "B", "C1"}, Roles: []string{"r", "s_2"}, Inds: []string{"a", ""}},
	}
}

// wrongConcepts are concepts that are not valid over names.
func wrongConcepts() []api.Concept {
	deep := of("A")
	for range 20 {
		deep = api.Concept{Op: api.CSome, Args: []api.Concept{deep}}
	}
	return []api.Concept{
		{N: 3}, {N: -1}, {Op: 8}, {Op: -1}, {Op: api.CTop, N: 1}, {Op: api.CNot}, deep,
		{Op: api.CSome, N: 4, Args: []api.Concept{of("A")}}, {Op: api.CAll, N: -1, Args: []api.Concept{of("A")}},
		{Op: api.CAnd, Args: []api.Concept{of("A"), {N: 3}}},
	}
}

// wrongInterps are values that are not interpretations of names, each for one
// reason.
func wrongInterps() []api.Interp {
	var l []api.Interp
	for _, change := range []func(i *api.Interp){
		func(i *api.Interp) { i.Size = 0 },
		func(i *api.Interp) { i.Size = 2 },
		func(i *api.Interp) { i.Size = 257 },
		func(i *api.Interp) { i.Concepts = i.Concepts[:2] },
		func(i *api.Interp) { i.Roles = append(i.Roles, nil) },
		func(i *api.Interp) { i.Inds = nil },
		func(i *api.Interp) { i.Concepts[0] = []int{2, 0} },
		func(i *api.Interp) { i.Concepts[2] = []int{3} },
		func(i *api.Interp) { i.Roles[0] = [][2]int{{0, 1}, {0, 1}} },
		func(i *api.Interp) { i.Roles[1] = [][2]int{{0, -1}} },
		func(i *api.Interp) { i.Inds[1] = 3 },
	} {
		i := three()
		change(&i)
		l = append(l, i)
	}
	return l
}

// belongs reports whether x is an element of c in i, by the definition.
func belongs(i api.Interp, c api.Concept, x int) bool {
	switch c.Op {
	case api.CName:
		return slices.Contains(i.Concepts[c.N], x)
	case api.CTop:
		return true
	case api.CBot:
		return false
	case api.CNot:
		return !belongs(i, c.Args[0], x)
	case api.CAnd:
		return belongs(i, c.Args[0], x) && belongs(i, c.Args[1], x)
	case api.COr:
		return belongs(i, c.Args[0], x) || belongs(i, c.Args[1], x)
	}
	for y := range i.Size {
		if isPair(i, c.N, x, y) && belongs(i, c.Args[0], y) == (c.Op == api.CSome) {
			return c.Op == api.CSome
		}
	}
	return c.Op == api.CAll
}

// isPair reports whether (x, y) is a pair of a role in i, by the definition.
func isPair(i api.Interp, role, x, y int) bool {
	if role%2 == 1 {
		x, y = y, x
	}
	return slices.Contains(i.Roles[role/2], [2]int{x, y})
}

// chosen returns the elements of i that are as wanted.
func chosen(i api.Interp, wanted func(x int) bool) []int {
	var l []int
	for x := range i.Size {
		if wanted(x) {
			l = append(l, x)
		}
	}
	return l
}

// randomInterp returns an interpretation of names with at most 6 elements.
func randomInterp(r *rand.Rand) api.Interp {
	i := api.Interp{Size: 1 + r.Intn(6)}
	share := 1 + r.Intn(4)
	some := func(int) bool { return r.Intn(share) == 0 }
	for range 3 {
		i.Concepts = append(i.Concepts, chosen(i, some))
	}
	for range 2 {
		var pairs [][2]int
		for x := range i.Size {
			for _, y := range chosen(i, some) {
				pairs = append(pairs, [2]int{x, y})
			}
		}
		i.Roles = append(i.Roles, pairs)
		i.Inds = append(i.Inds, r.Intn(i.Size))
	}
	return i
}

// randomConcept returns a concept over names of at most the given depth.
func randomConcept(r *rand.Rand, depth int) api.Concept {
	op := r.Intn(8)
	if depth == 1 {
		op = r.Intn(3)
	}
	c := api.Concept{Op: op}
	arguments := 1
	switch op {
	case api.CName:
		return api.Concept{N: r.Intn(3)}
	case api.CTop, api.CBot:
		return c
	case api.CAnd, api.COr:
		arguments = 2
	case api.CSome, api.CAll:
		c.N = r.Intn(4)
	}
	for range arguments {
		c.Args = append(c.Args, randomConcept(r, depth-1))
	}
	return c
}

// randomBase returns a knowledge base over names with three axioms of each
// kind.
func randomBase(r *rand.Rand) api.Base {
	b := api.Base{Names: names()}
	for range 3 {
		b.Incls = append(b.Incls, api.Incl{Sub: randomConcept(r, 3), Super: randomConcept(r, 3)})
		b.Roles = append(b.Roles, api.RoleIncl{Sub: r.Intn(4), Super: r.Intn(4)})
		b.Facts = append(b.Facts, api.Fact{Ind: r.Intn(2), Concept: randomConcept(r, 3)})
		b.Links = append(b.Links, api.Link{Role: r.Intn(2), From: r.Intn(2), To: r.Intn(2)})
	}
	return b
}

// shown returns a value as a string, in which an empty slice is written as nil
// is.
func shown(v any) string {
	return fmt.Sprintf("%+v", v)
}

// expect checks a result, and its error; with an error, want is the zero
// value.
func expect(t *testing.T, label string, got any, e api.Errno, want any, wantError api.Errno) {
	t.Helper()
	if shown(got) != shown(want) || e != wantError {
		t.Errorf("%s: %v, error %d, not %v, error %d", label, got, e, want, wantError)
	}
}
