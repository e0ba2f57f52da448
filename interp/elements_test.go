package interp_test

import (
	"math"
	"math/rand"
	"slices"
	"strings"
	"testing"

	"isagoge/api"
	"isagoge/interp"
)

// P3.2, P3.4: each operator by itself, and nested.
func TestElements(t *testing.T) {
	for _, c := range []struct {
		concept string
		want    []int
	}{
		{"A", []int{0, 2}}, {"B", []int{1}}, {"C1", nil}, {"top", []int{0, 1, 2}}, {"bot", nil},
		{"not A", []int{1}}, {"not C1", []int{0, 1, 2}}, {"not top", nil}, {"not not A", []int{0, 2}},
		{"(A and B)", nil}, {"(A and top)", []int{0, 2}}, {"(not B and not A)", nil},
		{"(A or B)", []int{0, 1, 2}}, {"(B or C1)", []int{1}}, {"(bot or A)", []int{0, 2}},
		{"some r top", []int{0, 1, 2}}, {"some r A", []int{0, 1, 2}}, {"some r B", []int{0}}, {"some r C1", nil},
		{"some r- top", []int{1, 2}}, {"some r- B", []int{2}}, {"some r- A", []int{1, 2}},
		{"some s_2 top", []int{1, 2}}, {"some s_2- top", []int{0}}, {"some s_2 B", nil}, {"some s_2- B", []int{0}},
		{"all r A", []int{1, 2}}, {"all r B", nil}, {"all r bot", nil}, {"all r top", []int{0, 1, 2}},
		{"all r- A", []int{0, 1}}, {"all r- bot", []int{0}}, {"all r- B", []int{0}},
		{"all s_2 bot", []int{0}}, {"all s_2- B", []int{1, 2}}, {"all s_2- bot", []int{1, 2}},
		{"some r some s_2 A", []int{0, 1, 2}}, {"all s_2 some r B", []int{0, 1, 2}}, {"some r all r- A", []int{0}}, {"not some r not A", []int{1, 2}},
		{"(some r B and not all s_2- B)", []int{0}}, {"all r (A or some s_2- not A)", []int{1, 2}},
	} {
		got, e := interp.Elements(names(), of(c.concept), three())
		expect(t, "Elements of "+c.concept, got, e, c.want, api.OK)
	}
}

// The example of the chapter.
func TestElementsOfExample(t *testing.T) {
	i := api.Interp{Size: 2, Concepts: [][]int{{0}, nil, nil}, Roles: [][][2]int{{{0, 1}, {1, 1}}, nil}, Inds: []int{0, 0}}
	for s, want := range map[string][]int{"some r A": nil, "all r- not A": {0}, "all r- A": {0}} {
		got, e := interp.Elements(names(), of(s), i)
		expect(t, s, got, e, want, api.OK)
	}
}

// P3.2: one element, and names without elements and pairs.
func TestElementsOfSingle(t *testing.T) {
	for s, want := range map[string][]int{
		"A": nil, "top": {0}, "bot": nil, "not A": {0}, "some r top": nil, "some r- top": nil, "all r bot": {0}, "all r- bot": {0},
	} {
		got, e := interp.Elements(names(), of(s), single())
		expect(t, s, got, e, want, api.OK)
	}
	got, e := interp.Elements(api.Names{}, of("top"), api.Interp{Size: 1})
	expect(t, "without names", got, e, []int{0}, api.OK)
}

// P3.2: as many elements and as deep a concept as possible.
func TestElementsOfPath(t *testing.T) {
	i := path()
	every := func(int) bool { return true }
	none := func(int) bool { return false }
	for _, c := range []struct {
		concept string
		wanted  func(x int) bool
	}{
		{"top", every}, {"bot", none}, {"not top", none}, {"C1", every}, {"not C1", none}, {"A", func(x int) bool { return x%2 == 0 }},
		{"B", func(x int) bool { return x == 255 }}, {"not B", func(x int) bool { return x != 255 }},
		{"some r A", func(x int) bool { return x%2 == 1 && x < 255 }}, {"all r A", func(x int) bool { return x%2 == 1 }},
		{"some r- A", func(x int) bool { return x%2 == 1 }}, {"all r- A", func(x int) bool { return x%2 == 1 || x == 0 }},
		{"some s_2 B", every}, {"all s_2 A", none}, {"all s_2- C1", every}, {"some s_2- bot", none},
		{strings.Repeat("some r ", 19) + "B", func(x int) bool { return x == 236 }},
		{strings.Repeat("all r- ", 19) + "bot", func(x int) bool { return x < 19 }},
		{strings.Repeat("not ", 19) + "A", func(x int) bool { return x%2 == 1 }},
	} {
		got, e := interp.Elements(names(), of(c.concept), i)
		expect(t, c.concept, got, e, chosen(i, c.wanted), api.OK)
	}
}

// smallInterps are all interpretations of one concept name and one role with at
// most two elements.
func smallInterps() []api.Interp {
	var l []api.Interp
	for size := 1; size <= 2; size++ {
		for bits := range 1 << (size + size*size) {
			i := api.Interp{Size: size, Concepts: make([][]int, 1), Roles: make([][][2]int, 1)}
			for x := range size {
				if bits>>x&1 == 1 {
					i.Concepts[0] = append(i.Concepts[0], x)
				}
				for y := range size {
					if bits>>(size+size*x+y)&1 == 1 {
						i.Roles[0] = append(i.Roles[0], [2]int{x, y})
					}
				}
			}
			l = append(l, i)
		}
	}
	return l
}

// smallConcepts are all concepts of one concept name and one role of at most
// the given depth.
func smallConcepts(depth int) []api.Concept {
	l := []api.Concept{{Op: api.CName}, {Op: api.CTop}, {Op: api.CBot}}
	if depth == 1 {
		return l
	}
	below := smallConcepts(depth - 1)
	for _, c := range below {
		l = append(l, api.Concept{Op: api.CNot, Args: []api.Concept{c}})
		for role := range 2 {
			l = append(l, api.Concept{Op: api.CSome, N: role, Args: []api.Concept{c}}, api.Concept{Op: api.CAll, N: role, Args: []api.Concept{c}})
		}
		for _, d := range below {
			l = append(l, api.Concept{Op: api.CAnd, Args: []api.Concept{c, d}}, api.Concept{Op: api.COr, Args: []api.Concept{c, d}})
		}
	}
	return l
}

// P3.2, P3.4: all small concepts in all small interpretations.
func TestElementsOfAllSmall(t *testing.T) {
	n := api.Names{Concepts: []string{"A"}, Roles: []string{"r"}}
	concepts := smallConcepts(3)
	for _, i := range smallInterps() {
		for _, c := range concepts {
			got, e := interp.Elements(n, c, i)
			want := chosen(i, func(x int) bool { return belongs(i, c, x) })
			if e != api.OK || !slices.Equal(got, want) {
				t.Fatalf("Elements of %v in %v: %v, error %d, not %v", c, i, got, e, want)
			}
		}
	}
}

// P3.2, P3.4: random concepts and interpretations.
func TestElementsOfRandom(t *testing.T) {
	r := rand.New(rand.NewSource(1))
	for range 5000 {
		c, d, i := randomConcept(r, 5), randomConcept(r, 3), randomInterp(r)
		ofC := chosen(i, func(x int) bool { return belongs(i, c, x) })
		got, e := interp.Elements(names(), c, i)
		expect(t, "Elements of "+shown(c)+" in "+shown(i), got, e, ofC, api.OK)
		inD := func(x int) bool { return belongs(i, d, x) }
		included, e := interp.Included(names(), c, d, i)
		want := !slices.ContainsFunc(ofC, func(x int) bool { return !inD(x) })
		expect(t, "Included of "+shown(c)+", "+shown(d)+" in "+shown(i), included, e, want, api.OK)
	}
}

// P3.2: whether all elements of a concept are elements of another one.
func TestIncluded(t *testing.T) {
	for _, c := range []struct {
		sub, super string
		i          api.Interp
		want       bool
	}{
		{"A", "A", three(), true}, {"bot", "C1", three(), true}, {"C1", "bot", three(), true}, {"A", "top", three(), true},
		{"B", "not A", three(), true}, {"A", "not B", three(), true}, {"A", "B", three(), false}, {"top", "A", three(), false},
		{"some r B", "A", three(), true}, {"A", "some r B", three(), false},
		{"A", "B", single(), true}, {"top", "A", single(), false},
		{"B", "not A", path(), true}, {"C1", "not B", path(), false}, {"top", "C1", path(), true}, {"B", "A", path(), false},
	} {
		got, e := interp.Included(names(), of(c.sub), of(c.super), c.i)
		expect(t, "Included of "+c.sub+", "+c.super, got, e, c.want, api.OK)
	}
}

// P3.2: the pairs of roles and inverses.
func TestPairs(t *testing.T) {
	for role, want := range [][][2]int{
		{{0, 1}, {0, 2}, {1, 2}, {2, 2}}, {{1, 0}, {2, 0}, {2, 1}, {2, 2}}, {{1, 0}, {2, 0}}, {{0, 1}, {0, 2}},
	} {
		got, e := interp.Pairs(names(), three(), role)
		expect(t, "Pairs of "+shown(role), got, e, want, api.OK)
		got, e = interp.Pairs(names(), single(), role)
		expect(t, "Pairs of "+shown(role)+" without pairs", got, e, [][2]int{}, api.OK)
	}
}

// P3.2, P3.4: the pairs of an inverse are the reversed pairs.
func TestPairsOfRandom(t *testing.T) {
	r := rand.New(rand.NewSource(1))
	interps := []api.Interp{path()}
	for range 300 {
		interps = append(interps, randomInterp(r))
	}
	for _, i := range interps {
		for role := range 4 {
			got, e := interp.Pairs(names(), i, role)
			var want [][2]int
			for _, p := range i.Roles[role/2] {
				if role%2 == 1 {
					p[0], p[1] = p[1], p[0]
				}
				want = append(want, p)
			}
			slices.SortFunc(want, func(p, q [2]int) int { return slices.Compare(p[:], q[:]) })
			if e != api.OK || !slices.Equal(got, want) {
				t.Errorf("Pairs of %d in %.200s: %.200s, error %d", role, shown(i), shown(got), e)
			}
		}
	}
}

// P3.2: roles that do not exist, and ErrBase and ErrInterp before ErrArg.
func TestPairsErrors(t *testing.T) {
	check := func(n api.Names, i api.Interp, role int, want api.Errno) {
		t.Helper()
		got, e := interp.Pairs(n, i, role)
		expect(t, "Pairs of "+shown(role)+" in "+shown(i), got, e, [][2]int{}, want)
	}
	for _, role := range []int{-1, -2, 4, 5, 12, math.MinInt, math.MaxInt} {
		check(names(), three(), role, api.ErrArg)
		check(api.Names{}, api.Interp{Size: 1}, role, api.ErrArg)
		for _, i := range wrongInterps() {
			check(names(), i, role, api.ErrInterp)
		}
		for _, n := range wrongNames() {
			check(n, three(), role, api.ErrBase)
			check(n, api.Interp{}, role, api.ErrBase)
		}
	}
	check(api.Names{}, api.Interp{Size: 1}, 0, api.ErrArg)
	for _, i := range wrongInterps() {
		check(names(), i, 0, api.ErrInterp)
	}
}

// P3.2: the last one of as many roles as possible.
func TestPairsOfLastRole(t *testing.T) {
	n := api.Names{Roles: []string{"a", "b", "c", "d", "e", "f"}}
	i := api.Interp{Size: 2, Roles: [][][2]int{nil, nil, nil, nil, nil, {{0, 1}}}}
	for role, want := range map[int][][2]int{9: nil, 10: {{0, 1}}, 11: {{1, 0}}} {
		got, e := interp.Pairs(n, i, role)
		expect(t, "Pairs of "+shown(role), got, e, want, api.OK)
	}
	got, e := interp.Pairs(n, i, 12)
	expect(t, "Pairs of 12", got, e, [][2]int{}, api.ErrArg)
}

// P3.2: ErrBase, then ErrConcept, then ErrInterp.
func TestElementsErrors(t *testing.T) {
	check := func(n api.Names, c api.Concept, i api.Interp, want api.Errno) {
		t.Helper()
		list, e := interp.Elements(n, c, i)
		expect(t, "Elements of "+shown(c)+" in "+shown(i), list, e, []int{}, want)
		for _, other := range []api.Concept{of("A"), c} {
			included, e := interp.Included(n, c, other, i)
			expect(t, "Included of "+shown(c)+" in "+shown(i), included, e, false, want)
			included, e = interp.Included(n, other, c, i)
			expect(t, "Included in "+shown(c)+" in "+shown(i), included, e, false, want)
		}
	}
	for _, i := range append(wrongInterps(), three(), api.Interp{}) {
		for _, c := range append(wrongConcepts(), of("A")) {
			for _, n := range wrongNames() {
				check(n, c, i, api.ErrBase)
			}
		}
		for _, c := range wrongConcepts() {
			check(names(), c, i, api.ErrConcept)
		}
	}
	for _, i := range append(wrongInterps(), api.Interp{}) {
		check(names(), of("A"), i, api.ErrInterp)
	}
}
