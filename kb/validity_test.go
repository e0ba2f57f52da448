package kb_test

import (
	"math"
	"slices"
	"testing"

	"isagoge/api"
	"isagoge/kb"
)

// valid checks the validity of a knowledge base with the given number of
// axioms.
func valid(t *testing.T, label string, b api.Base, axioms int, want api.Errno) {
	t.Helper()
	if e := kb.Check(b); e != want {
		t.Errorf("Check of %s: %d, not %d", label, e, want)
	}
	if want != api.OK {
		axioms = 0
	}
	if got, e := kb.Axioms(b); got != axioms || e != want {
		t.Errorf("Axioms of %s: %d, error %d, not %d, error %d", label, got, e, axioms, want)
	}
}

// P2.1: ordinary knowledge bases.
func TestCheck(t *testing.T) {
	valid(t, "nothing", api.Base{}, 0, api.OK)
	valid(t, "names", api.Base{Names: names()}, 0, api.OK)
	valid(t, "empty slices", api.Base{Names: names(), Incls: []api.Incl{}, Links: []api.Link{}}, 0, api.OK)
	valid(t, "full", full(), 12, api.OK)
	valid(t, "one inclusion", api.Base{Names: names(), Incls: full().Incls[:1]}, 1, api.OK)
	valid(t, "two role inclusions", api.Base{Names: names(), Roles: full().Roles[:2]}, 2, api.OK)
	valid(t, "a fact", api.Base{Names: names(), Facts: full().Facts[:1]}, 1, api.OK)
	valid(t, "three links", api.Base{Names: names(), Links: full().Links}, 3, api.OK)
	valid(t, "axioms without names", api.Base{Incls: []api.Incl{incl("top", "(bot or not top)")}}, 1, api.OK)
	for _, b := range someBases(200) {
		valid(t, shown(b), b, len(b.Incls)+len(b.Roles)+len(b.Facts)+len(b.Links), api.OK)
	}
	for _, b := range wrong() {
		valid(t, shown(b), b, 0, api.ErrBase)
	}
}

// P2.1: names.
func TestCheckNames(t *testing.T) {
	for _, n := range []api.Names{
		{Concepts: []string{"A", "A"}}, {Roles: []string{"r", "r"}}, {Inds: []string{"a", "a"}},
		{Concepts: []string{"x"}, Roles: []string{"x"}}, {Roles: []string{"x"}, Inds: []string{"x"}}, {Concepts: []string{"x"}, Inds: []string{"x"}},
		{Concepts: []string{""}}, {Concepts: []string{"concept"}}, {Roles: []string{"role"}}, {Inds: []string{"ind"}}, {Inds: []string{"Abcdefghijklm"}},
		{Concepts: listed("C", 17)}, {Roles: listed("r", 7)}, {Inds: listed("i", 11)},
	} {
		valid(t, shown(n), api.Base{Names: n}, 0, api.ErrBase)
	}
	most := api.Names{Concepts: listed("C", 16), Roles: listed("r", 6), Inds: listed("i", 10)}
	last := api.Base{Names: most, Facts: []api.Fact{{Ind: 9, Concept: over(most, "some r5- C15")}}, Links: []api.Link{link(5, 9, 9)}}
	valid(t, "as many names as possible", last, 2, api.OK)
}

// P2.1: the numbers of roles and individuals.
func TestCheckNumbers(t *testing.T) {
	for k, change := range []func(b *api.Base, k int){
		func(b *api.Base, k int) { b.Roles[0].Sub = k },
		func(b *api.Base, k int) { b.Roles[2].Super = k },
		func(b *api.Base, k int) { b.Facts[1].Ind = k },
		func(b *api.Base, k int) { b.Links[0].Role = k },
		func(b *api.Base, k int) { b.Links[1].From = k },
		func(b *api.Base, k int) { b.Links[2].To = k },
	} {
		choices := 2 // role names, individuals
		if k < 2 {
			choices = 4 // roles
		}
		for _, number := range []int{math.MinInt, math.MinInt / 2, -2, -1, 0, 1, 2, 3, 4, 5, math.MaxInt / 2, math.MaxInt/2 + 1, math.MaxInt} {
			want := api.ErrBase
			if 0 <= number && number < choices {
				want = api.OK
			}
			b := full()
			change(&b, number)
			valid(t, shown(b), b, 12, want)
		}
	}
}

// P2.1: without the names that an axiom needs, it is not valid.
func TestCheckWithoutNames(t *testing.T) {
	n := names()
	for _, c := range []struct {
		label string
		b     api.Base
		want  api.Errno
	}{
		{"inclusion without concepts", api.Base{Names: api.Names{Roles: n.Roles, Inds: n.Inds}, Incls: []api.Incl{incl("A", "top")}}, api.ErrBase},
		{"inclusion without roles", api.Base{Names: api.Names{Concepts: n.Concepts, Inds: n.Inds}, Incls: []api.Incl{incl("top", "all r top")}}, api.ErrBase},
		{"role inclusion without roles", api.Base{Names: api.Names{Concepts: n.Concepts, Inds: n.Inds}, Roles: []api.RoleIncl{{}}}, api.ErrBase},
		{"role inclusion with roles", api.Base{Names: api.Names{Roles: n.Roles}, Roles: []api.RoleIncl{{}}}, api.OK},
		{"fact without individuals", api.Base{Names: api.Names{Concepts: n.Concepts, Roles: n.Roles}, Facts: []api.Fact{fact(0, "top")}}, api.ErrBase},
		{"fact with individuals", api.Base{Names: api.Names{Inds: n.Inds}, Facts: []api.Fact{fact(0, "top")}}, api.OK},
		{"fact without concepts", api.Base{Names: api.Names{Inds: n.Inds}, Facts: []api.Fact{fact(0, "A")}}, api.ErrBase},
		{"link without individuals", api.Base{Names: api.Names{Concepts: n.Concepts, Roles: n.Roles}, Links: []api.Link{{}}}, api.ErrBase},
		{"link without roles", api.Base{Names: api.Names{Concepts: n.Concepts, Inds: n.Inds}, Links: []api.Link{{}}}, api.ErrBase},
		{"link with both", api.Base{Names: api.Names{Roles: n.Roles, Inds: n.Inds}, Links: []api.Link{{}}}, api.OK},
	} {
		valid(t, c.label, c.b, 1, c.want)
	}
}

// P2.1: concepts that are not valid, in each place.
func TestCheckConcepts(t *testing.T) {
	for k, change := range []func(b *api.Base, c api.Concept){
		func(b *api.Base, c api.Concept) { b.Incls[0].Sub = c },
		func(b *api.Base, c api.Concept) { b.Incls[1].Super = c },
		func(b *api.Base, c api.Concept) { b.Incls[2].Sub = c },
		func(b *api.Base, c api.Concept) { b.Facts[0].Concept = c },
		func(b *api.Base, c api.Concept) { b.Facts[2].Concept = c },
	} {
		for _, c := range []api.Concept{
			{N: -1}, {N: 3}, {Op: -1}, {Op: 8}, {Op: api.CTop, N: 1}, {Op: api.CNot}, {Op: api.CSome, N: 4, Args: []api.Concept{{}}},
			{Op: api.CNot, Args: []api.Concept{{N: 3}}}, nested(21), bushy(201),
		} {
			b := full()
			change(&b, c)
			valid(t, shown(k)+" "+shown(c), b, 0, api.ErrBase)
		}
		b := full()
		change(&b, nested(20))
		valid(t, shown(k)+" at the greatest depth", b, 12, api.OK)
	}
}

// P2.1: at most MaxAxioms axioms, of one kind or of several.
func TestCheckAxiomLimit(t *testing.T) {
	base := func(incls, roles, facts, links int) api.Base {
		return api.Base{
			Names: names(),
			Incls: slices.Repeat([]api.Incl{incl("A", "B")}, incls),
			Roles: make([]api.RoleIncl, roles),
			Facts: slices.Repeat([]api.Fact{fact(0, "A")}, facts),
			Links: make([]api.Link, links),
		}
	}
	for _, c := range [][4]int{{60, 0, 0, 0}, {0, 60, 0, 0}, {0, 0, 60, 0}, {0, 0, 0, 60}, {15, 15, 15, 15}, {57, 1, 1, 1}, {1, 57, 1, 1}, {1, 1, 57, 1}, {1, 1, 1, 57}} {
		valid(t, shown(c), base(c[0], c[1], c[2], c[3]), 60, api.OK)
		for k := range c {
			d := c
			d[k]++
			valid(t, shown(d), base(d[0], d[1], d[2], d[3]), 0, api.ErrBase)
		}
	}
}

// P2.1: at most MaxNodes nodes in all concepts together.
func TestCheckNodeLimit(t *testing.T) {
	one := api.Fact{Concept: of("A")}
	ten := api.Fact{Concept: over(names(), "not not not not not not not not not A")}
	half := api.Incl{Sub: bushy(100), Super: bushy(100)}
	for _, c := range []struct {
		label string
		incls []api.Incl
		facts []api.Fact
		nodes int
	}{
		{"a fact", nil, []api.Fact{{Concept: bushy(200)}}, 399},
		{"both sides", []api.Incl{{Sub: bushy(100), Super: bushy(101)}}, nil, 400},
		{"the left side", []api.Incl{{Sub: bushy(200), Super: of("A")}}, nil, 400},
		{"the right side", []api.Incl{{Sub: of("not A"), Super: bushy(200)}}, nil, 401},
		{"an inclusion and facts", []api.Incl{half}, []api.Fact{one, one}, 400},
		{"an inclusion and more facts", []api.Incl{half}, []api.Fact{one, one, one}, 401},
		{"two inclusions", []api.Incl{half, {Sub: of("A"), Super: of("B")}}, nil, 400},
		{"two inclusions and a fact", []api.Incl{half, {Sub: of("A"), Super: of("B")}}, []api.Fact{one}, 401},
		{"forty facts", nil, slices.Repeat([]api.Fact{ten}, 40), 400},
		{"forty-one facts", nil, append(slices.Repeat([]api.Fact{ten}, 40), one), 401},
	} {
		want := api.OK
		if c.nodes > 400 {
			want = api.ErrBase
		}
		valid(t, c.label, api.Base{Names: names(), Incls: c.incls, Facts: c.facts, Links: full().Links}, len(c.incls)+len(c.facts)+3, want)
	}
}
