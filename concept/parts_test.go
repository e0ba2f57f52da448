package concept_test

import (
	"slices"
	"testing"

	"isagoge/api"
	"isagoge/concept"
)

// P1.3: the concepts that occur, in preorder, each only once.
func TestSubs(t *testing.T) {
	for _, c := range []struct {
		s    string
		want []string
	}{
		{"A", []string{"A"}},
		{"top", []string{"top"}},
		{"not A", []string{"not A", "A"}},
		{"not not A", []string{"not not A", "not A", "A"}},
		{"some r (A and A)", []string{"some r (A and A)", "(A and A)", "A"}},
		{"(A and B)", []string{"(A and B)", "A", "B"}},
		{"(B or A)", []string{"(B or A)", "B", "A"}},
		{"((A or B) and (A or B))", []string{"((A or B) and (A or B))", "(A or B)", "A", "B"}},
		{"((A or B) and (A and B))", []string{"((A or B) and (A and B))", "(A or B)", "A", "B", "(A and B)"}},
		{"((A or B) or (B or A))", []string{"((A or B) or (B or A))", "(A or B)", "A", "B", "(B or A)"}},
		{"(A and (not B or A))", []string{"(A and (not B or A))", "A", "(not B or A)", "not B", "B"}},
		{"((not B or A) and B)", []string{"((not B or A) and B)", "(not B or A)", "not B", "B", "A"}},
		{"(some r A and some r- A)", []string{"(some r A and some r- A)", "some r A", "A", "some r- A"}},
		{"(some r A and some s_2 A)", []string{"(some r A and some s_2 A)", "some r A", "A", "some s_2 A"}},
		{"(some r A and all r A)", []string{"(some r A and all r A)", "some r A", "A", "all r A"}},
		{"(some r A and some r B)", []string{"(some r A and some r B)", "some r A", "A", "some r B", "B"}},
		{"(top and (bot or top))", []string{"(top and (bot or top))", "top", "(bot or top)", "bot"}},
		{"some r some r some r A", []string{"some r some r some r A", "some r some r A", "some r A", "A"}},
	} {
		got, e := concept.Subs(names(), parsed(t, c.s))
		var want []api.Concept
		for _, s := range c.want {
			want = append(want, parsed(t, s))
		}
		if e != api.OK || !equalLists(got, want) {
			t.Errorf("Subs of %s: %+v, error %d", c.s, got, e)
		}
	}
}

// P1.3: the same by its definition, for concepts of all sizes.
func TestSubsOfMany(t *testing.T) {
	concepts := append(someConcepts(500, 6), not(bushy(200, name(1))), chain(20, not, bot()))
	for _, c := range concepts {
		var want []api.Concept
		var collect func(api.Concept)
		collect = func(d api.Concept) {
			if !slices.ContainsFunc(want, func(met api.Concept) bool { return equal(met, d) }) {
				want = append(want, d)
			}
			for _, arg := range d.Args {
				collect(arg)
			}
		}
		collect(c)
		got, e := concept.Subs(names(), c)
		if e != api.OK || !equalLists(got, want) {
			t.Errorf("Subs of %s: %+v, error %d", shown(c), got, e)
		}
	}
}

// P1.3: the names that occur, in increasing order.
func TestUses(t *testing.T) {
	many := api.Names{Concepts: listed("C", 16), Roles: listed("r", 6)}
	for _, c := range []struct {
		n               api.Names
		c               api.Concept
		concepts, roles []int
	}{
		{names(), top(), nil, nil},
		{names(), not(and(top(), bot())), nil, nil},
		{names(), name(0), []int{0}, nil},
		{names(), name(2), []int{2}, nil},
		{names(), and(name(2), or(name(0), name(2))), []int{0, 2}, nil},
		{names(), and(name(2), and(name(1), name(0))), []int{0, 1, 2}, nil},
		{names(), some(0, top()), nil, []int{0}},
		{names(), some(1, top()), nil, []int{0}},
		{names(), all(2, bot()), nil, []int{1}},
		{names(), all(3, bot()), nil, []int{1}},
		{names(), some(0, all(1, top())), nil, []int{0}},
		{names(), some(3, all(1, some(2, not(name(1))))), []int{1}, []int{0, 1}},
		{many, and(some(11, name(15)), and(all(4, name(3)), some(10, name(15)))), []int{3, 15}, []int{2, 5}},
	} {
		concepts, roles, e := concept.Uses(c.n, c.c)
		if e != api.OK || !slices.Equal(concepts, c.concepts) || !slices.Equal(roles, c.roles) {
			t.Errorf("Uses of %s: %v, %v, error %d", shown(c.c), concepts, roles, e)
		}
	}
}

// P1.3 (and R1, R3): errors.
func TestPartsErrors(t *testing.T) {
	for _, c := range refused() {
		l, e := concept.Subs(c.n, c.c)
		if e != c.want || len(l) > 0 {
			t.Errorf("Subs of %+v: %v, error %d, not %d", c.c, l, e, c.want)
		}
		concepts, roles, e := concept.Uses(c.n, c.c)
		if e != c.want || len(concepts) > 0 || len(roles) > 0 {
			t.Errorf("Uses of %+v: %v, %v, error %d, not %d", c.c, concepts, roles, e, c.want)
		}
	}
}
