package kb_test

import (
	"math"
	"slices"
	"strings"
	"testing"

	"isagoge/api"
	"isagoge/kb"
)

// P2.2: Only of every subset of the axioms.
func TestOnly(t *testing.T) {
	b := full()
	for set := range 1 << 12 {
		var axioms []int
		want := api.Base{Names: names()}
		for k := range 12 {
			if set>>k&1 == 0 {
				continue
			}
			axioms = append(axioms, k)
			switch k / 3 {
			case 0:
				want.Incls = append(want.Incls, b.Incls[k])
			case 1:
				want.Roles = append(want.Roles, b.Roles[k-3])
			case 2:
				want.Facts = append(want.Facts, b.Facts[k-6])
			case 3:
				want.Links = append(want.Links, b.Links[k-9])
			}
		}
		got, e := kb.Only(b, axioms)
		expect(t, "Only of "+shown(axioms), got, e, want, api.OK)
	}
}

// P2.2: the numbers are counted through kinds without axioms.
func TestOnlyOfSomeKinds(t *testing.T) {
	b := full()
	b.Incls, b.Facts = nil, nil
	got, e := kb.Only(b, []int{2, 3, 5})
	expect(t, "2, 3, 5", got, e, api.Base{Names: names(), Roles: []api.RoleIncl{roleIncl(2, 0)}, Links: []api.Link{link(0, 0, 1), link(0, 1, 0)}}, api.OK)
	got, e = kb.Only(api.Base{}, nil)
	expect(t, "nothing", got, e, api.Base{}, api.OK)
	got, e = kb.Only(b, []int{})
	expect(t, "an empty list", got, e, api.Base{Names: names()}, api.OK)
}

// P2.2: lists that are not numbers of axioms in strictly increasing order.
func TestOnlyErrors(t *testing.T) {
	for _, l := range [][]int{
		{-1}, {12}, {0, 12}, {-1, 0}, {math.MinInt}, {math.MaxInt}, {0, math.MaxInt}, {0, 0}, {11, 11}, {1, 0}, {0, 2, 1}, {0, 2, 2, 3}, {11, 0}, {5, 6, 7, 6},
		{0, 1, 2, 3, 4, 5, 6, 7, 8, 9, 10, 11, 12}, {11, 10, 9}, make([]int, 1000000),
	} {
		got, e := kb.Only(full(), l)
		expect(t, "Only of "+shown(l[:min(len(l), 20)]), got, e, api.Base{}, api.ErrArg)
	}
	got, e := kb.Only(api.Base{Names: names()}, []int{0})
	expect(t, "no axioms", got, e, api.Base{}, api.ErrArg)
	for _, b := range wrong() {
		for _, l := range [][]int{nil, {0}, {-1}, {1, 0}} {
			got, e := kb.Only(b, l)
			expect(t, "Only of "+shown(b), got, e, api.Base{}, api.ErrBase)
		}
	}
}

// P2.2: the line of each axiom.
func TestLine(t *testing.T) {
	for k, want := range fullLines() {
		if s, e := kb.Line(full(), k); s != want || e != api.OK {
			t.Errorf("Line of %d: %q, error %d, not %q", k, s, e, want)
		}
	}
	b := full()
	b.Incls, b.Roles, b.Links = nil, nil, b.Links[1:2]
	if s, e := kb.Line(b, 3); s != "(b_1, b_1) : s_2" || e != api.OK {
		t.Errorf("Line of 3: %q, error %d", s, e)
	}
	if s, e := kb.Line(example(), 2); s != "role mother < parent" || e != api.OK {
		t.Errorf("Line of 2 in the example: %q, error %d", s, e)
	}
}

// P2.2: numbers that no axiom has.
func TestLineErrors(t *testing.T) {
	for _, k := range []int{-1, 12, 13, math.MinInt, math.MaxInt} {
		if s, e := kb.Line(full(), k); s != "" || e != api.ErrArg {
			t.Errorf("Line of %d: %q, error %d", k, s, e)
		}
	}
	if s, e := kb.Line(api.Base{Names: names()}, 0); s != "" || e != api.ErrArg {
		t.Errorf("no axioms: %q, error %d", s, e)
	}
	for _, b := range wrong() {
		for _, k := range []int{0, -1, 100} {
			if s, e := kb.Line(b, k); s != "" || e != api.ErrBase {
				t.Errorf("Line of %d in %s: %q, error %d", k, shown(b), s, e)
			}
		}
	}
}

// P2.2: of each kind first the axioms of a, then those of b.
func TestJoin(t *testing.T) {
	a, _ := kb.Only(full(), []int{1, 3, 5, 8, 9})
	b, _ := kb.Only(full(), []int{0, 1, 4, 6, 7, 11})
	f := full()
	got, e := kb.Join(a, b)
	expect(t, "a and b", got, e, api.Base{
		Names: names(),
		Incls: []api.Incl{f.Incls[1], f.Incls[0], f.Incls[1]},
		Roles: []api.RoleIncl{f.Roles[0], f.Roles[2], f.Roles[1]},
		Facts: []api.Fact{f.Facts[2], f.Facts[0], f.Facts[1]},
		Links: []api.Link{f.Links[0], f.Links[2]},
	}, api.OK)
	nothing := api.Base{Names: names()}
	for _, c := range [][3]api.Base{{full(), nothing, full()}, {nothing, full(), full()}, {nothing, nothing, nothing}, {{}, {}, {}}} {
		got, e := kb.Join(c[0], c[1])
		expect(t, "with no axioms", got, e, c[2], api.OK)
	}
	none := api.Base{Names: api.Names{Concepts: []string{}, Inds: []string{}}}
	got, e = kb.Join(none, api.Base{})
	expect(t, "empty and nil names", got, e, api.Base{}, api.OK)
}

// P2.2: Join of different names, and of knowledge bases that are not valid.
func TestJoinErrors(t *testing.T) {
	for _, change := range []func(n *api.Names){
		func(n *api.Names) { n.Concepts[2] = "C2" },
		func(n *api.Names) { n.Concepts = append(n.Concepts, "D") },
		func(n *api.Names) { n.Roles[0] = "R" },
		func(n *api.Names) { n.Roles = append(n.Roles, "t") },
		func(n *api.Names) { n.Inds[1] = "b" },
		func(n *api.Names) { n.Inds = append(n.Inds, "c") },
		func(n *api.Names) { n.Inds[0], n.Inds[1] = n.Inds[1], n.Inds[0] },
		func(n *api.Names) { n.Concepts[0], n.Concepts[1] = n.Concepts[1], n.Concepts[0] },
		func(n *api.Names) { n.Roles[0], n.Inds[0] = n.Inds[0], n.Roles[0] },
	} {
		other := full()
		change(&other.Names)
		got, e := kb.Join(full(), other)
		expect(t, "Join with "+shown(other.Names), got, e, api.Base{}, api.ErrArg)
		got, e = kb.Join(other, full())
		expect(t, "Join of "+shown(other.Names), got, e, api.Base{}, api.ErrArg)
		for _, b := range wrong() {
			got, e = kb.Join(b, other)
			expect(t, "Join of "+shown(b), got, e, api.Base{}, api.ErrBase)
			got, e = kb.Join(other, b)
			expect(t, "Join with "+shown(b), got, e, api.Base{}, api.ErrBase)
			got, e = kb.Join(b, b)
			expect(t, "Join of equal ones", got, e, api.Base{}, api.ErrBase)
		}
	}
}

// P2.2: results that are too large.
func TestJoinLimits(t *testing.T) {
	links := func(count int) api.Base {
		return api.Base{Names: names(), Links: make([]api.Link, count)}
	}
	roles := func(count int) api.Base {
		return api.Base{Names: names(), Roles: make([]api.RoleIncl, count)}
	}
	nodes := func(left, right int) api.Base {
		return api.Base{Names: names(), Incls: []api.Incl{{Sub: bushy(left), Super: bushy(right)}}}
	}
	one := api.Base{Names: names(), Facts: []api.Fact{fact(0, "A")}}
	wide := nodes(100, 100)
	for _, c := range []struct {
		label string
		a, b  api.Base
		want  api.Errno
	}{
		{"60 links", links(60), links(0), api.OK},
		{"61 links", links(60), links(1), api.ErrLarge},
		{"120 links", links(60), links(60), api.ErrLarge},
		{"60 axioms of two kinds", links(29), roles(31), api.OK},
		{"61 axioms of two kinds", roles(30), links(31), api.ErrLarge},
		{"399 nodes", wide, one, api.OK},
		{"400 nodes", nodes(50, 50), nodes(50, 52), api.OK},
		{"402 nodes", nodes(50, 50), nodes(50, 53), api.ErrLarge},
		{"401 nodes", nodes(100, 101), one, api.ErrLarge},
		{"796 nodes", wide, wide, api.ErrLarge},
		{"too large, with different names", links(60), api.Base{Links: make([]api.Link, 1), Names: api.Names{Roles: []string{"r"}, Inds: []string{"a"}}}, api.ErrArg},
	} {
		got, e := kb.Join(c.a, c.b)
		if e != c.want || e != api.OK && shown(got) != shown(api.Base{}) {
			t.Errorf("%s: %s, error %d, not %d", c.label, shown(got), e, c.want)
		}
	}
}

// P2.6: Only of all axioms is the knowledge base, and a knowledge base that was
// divided is joined again.
func TestOnlyAndJoin(t *testing.T) {
	for i, b := range append(someBases(300), full(), example()) {
		count, _ := kb.Axioms(b)
		var all, some, others []int
		for k := range count {
			all = append(all, k)
			if (k*k+i)%7 < 3 {
				some = append(some, k)
			} else {
				others = append(others, k)
			}
		}
		got, e := kb.Only(b, all)
		expect(t, "Only of all", got, e, b, api.OK)
		left, _ := kb.Only(b, some)
		right, _ := kb.Only(b, others)
		joined, e := kb.Join(left, right)
		if e != api.OK || !slices.Equal(sortedLines(t, joined), sortedLines(t, b)) {
			t.Errorf("Join of parts: %s, error %d, not %s", shown(joined), e, shown(b))
		}
	}
}

func sortedLines(t *testing.T, b api.Base) []string {
	t.Helper()
	s, e := kb.String(b)
	if e != api.OK {
		t.Fatal(e)
	}
	l := strings.Split(s, "\n")
	slices.Sort(l)
	return l
}
