package types_test

import (
	"testing"

	"isagoge/api"
	"isagoge/types"
)

// P6.2: concepts that have elements in some models of the inclusions and role
// inclusions, and others.
func TestSatisfiable(t *testing.T) {
	for _, c := range []struct {
		axioms, s string
		want      bool
	}{
		{"A < some r A;some r- A < not A", "A", false},
		{"A < some r A;some r- A < not A", "not A", true},
		{"A < some r A;some r- A < not A", "some r A", false},
		{"A < some r A;some r- A < not A", "some r- A", false},
		{"A < some r A;some r- A < not A", "(B and some r B)", true},

		{"", "top", true},
		{"", "bot", false},
		{"", "A", true},
		{"", "(A and not A)", false},
		{"", "(some r A and all r not A)", false},
		{"", "(some r A and all r- not A)", true},
		{"", "(some r A and all s not A)", true},
		{"", "some r some r- A", true},
		{"", "(not A and some r all r- A)", false},
		{"", "(A and some r- all r not A)", false},
		{"", "some r bot", false},
		{"", "all r bot", true},
		{"top < bot", "top", false},
		{"top < bot", "all r bot", false},
		{"A < bot", "A", false},
		{"A < bot", "some r A", false},
		{"A < bot", "all r A", true},
		{"A < bot", "(all r A and some r top)", false},
		{"A < B", "(A and not B)", false},
		{"A < B", "(B and not A)", true},
		{"A < B", "(some r A and all r not B)", false},

		{"role r < s", "(some r A and all s not A)", false},
		{"role r < s", "(some s A and all r not A)", true},
		{"role r < s", "(some r A and all s- not A)", true},
		{"role r < s-", "(some r A and all s- not A)", false},
		{"role r < s-", "(some r- A and all s not A)", false},
		{"role r < s-", "(some r A and all s not A)", true},
		{"role r < t;role t < s", "(some r A and all s not A)", false},
		{"role r < r-", "(A and some r all r not A)", false},

		{"top < some r A;some r A < B", "not B", false},
		{"top < some r A;some r A < B", "(not A and some r some r not A)", true},
	} {
		got, e := types.Satisfiable(based(c.axioms), of(c.s))
		expect(t, c.s+" with "+c.axioms, got, e, c.want, api.OK)
	}
}

// P6.2: facts and links do not matter, and neither does the number of
// individuals, but marks of facts are counted.
func TestSatisfiableWithFacts(t *testing.T) {
	got, e := types.Satisfiable(based("a : bot"), of("A"))
	expect(t, "an impossible fact", got, e, true, api.OK)
	got, e = types.Satisfiable(based("a : A;(a, a) : r;a : all r not A"), of("A"))
	expect(t, "an impossible link", got, e, true, api.OK)
	b := api.Base{Names: manyNames(10)}
	got, e = types.Satisfiable(b, and(name(0), and(name(1), name(2))))
	expect(t, "many individuals", got, e, true, api.OK)

	for _, mark := range counted(7, 0) {
		b.Facts = append(b.Facts, api.Fact{Ind: 9, Concept: mark})
	}
	got, e = types.Satisfiable(b, name(7))
	expect(t, "MaxMarks marks", got, e, true, api.OK)
	got, e = types.Satisfiable(b, and(name(7), name(6)))
	expect(t, "MaxMarks marks", got, e, true, api.OK)
	got, e = types.Satisfiable(b, and(name(7), name(8)))
	expect(t, "one more", got, e, false, api.ErrSpace)
	got, e = types.Satisfiable(b, some(0, name(7)))
	expect(t, "one more", got, e, false, api.ErrSpace)
}
