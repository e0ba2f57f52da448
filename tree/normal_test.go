package tree_test

import (
	"reflect"
	"strings"
	"testing"

	"isagoge/api"
	"isagoge/tree"
)

// chain returns a tree of the given depth, with a name below nodes of an
// operator.
func chain(op, depth int) api.Concept {
	c := api.Concept{Op: api.CName, N: 1}
	for range depth - 1 {
		c = api.Concept{Op: op, Args: []api.Concept{c}}
	}
	return c
}

// The tests of package concept are about trees of all kinds; these are about
// ones that are too deep for a concept.
func TestNormalOfDeepTrees(t *testing.T) {
	a := chain(api.CNot, 1)
	not := chain(api.CNot, 2)
	for _, c := range []struct {
		c       api.Concept
		negated bool
		want    api.Concept
	}{
		{chain(api.CNot, 1001), false, a},
		{chain(api.CNot, 1001), true, not},
		{chain(api.CNot, 1002), false, not},
		{chain(api.CNot, 1002), true, a},
		{chain(api.CSome, 1000), false, chain(api.CSome, 1000)},
	} {
		if got := tree.Normal(c.c, c.negated); !reflect.DeepEqual(got, c.want) {
			t.Errorf("%.100v, not %.100v", got, c.want)
		}
	}
	negated := tree.Normal(chain(api.CAll, 1000), true)
	for depth := range 999 {
		if negated.Op != api.CSome {
			t.Fatalf("%d at depth %d", negated.Op, depth+1)
		}
		negated = negated.Args[0]
	}
	if !reflect.DeepEqual(negated, not) {
		t.Errorf("%v inside, not %v", negated, not)
	}
}

func TestNormalIsNew(t *testing.T) {
	c := chain(api.CSome, 3)
	d := tree.Normal(c, false)
	d.Args[0].Args[0].N = 7
	d.Args[0].Op = api.COr
	if !reflect.DeepEqual(c, chain(api.CSome, 3)) {
		t.Errorf("the normal form shares memory with the concept: %v", c)
	}
}

func TestStringOfDeepTrees(t *testing.T) {
	n := api.Names{Concepts: []string{"A", "B"}, Roles: []string{"r", "s"}}
	inverse := chain(api.CAll, 2)
	inverse.N = 3
	for _, c := range []struct {
		c    api.Concept
		want string
	}{
		{inverse, "all s- B"},
		{chain(api.CNot, 1000), strings.Repeat("not ", 999) + "B"},
		{chain(api.CSome, 1000), strings.Repeat("some r ", 999) + "B"},
		{api.Concept{Op: api.CAnd, Args: []api.Concept{inverse, {Op: api.COr, Args: []api.Concept{{Op: api.CTop}, {Op: api.CBot}}}}}, "(all s- B and (top or bot))"},
	} {
		if got := tree.String(n, c.c); got != c.want {
			t.Errorf("%.100s, not %.100s", got, c.want)
		}
	}
}
