package kb_test

import (
	"slices"
	"testing"

	"isagoge/api"
	"isagoge/kb"
	"isagoge/scan"
)

// P2.3: the names in each place of each kind of axiom.
func TestUses(t *testing.T) {
	for _, c := range []struct {
		b                     api.Base
		concepts, roles, inds []int
	}{
		{api.Base{}, nil, nil, nil},
		{api.Base{Incls: []api.Incl{incl("B", "top")}}, []int{1}, nil, nil},
		{api.Base{Incls: []api.Incl{incl("bot", "some s_2- C1")}}, []int{2}, []int{1}, nil},
		{api.Base{Incls: []api.Incl{incl("C1", "(B or C1)"), incl("all r- bot", "A")}}, []int{0, 1, 2}, []int{0}, nil},
		{api.Base{Roles: []api.RoleIncl{roleIncl(3, 2)}}, nil, []int{1}, nil},
		{api.Base{Roles: []api.RoleIncl{roleIncl(3, 0)}}, nil, []int{0, 1}, nil},
		{api.Base{Roles: []api.RoleIncl{roleIncl(1, 0)}}, nil, []int{0}, nil},
		{api.Base{Facts: []api.Fact{fact(1, "top")}}, nil, nil, []int{1}},
		{api.Base{Facts: []api.Fact{fact(1, "some s_2 B"), fact(0, "A")}}, []int{0, 1}, []int{1}, []int{0, 1}},
		{api.Base{Links: []api.Link{link(1, 1, 1)}}, nil, []int{1}, []int{1}},
		{api.Base{Links: []api.Link{link(1, 1, 0)}}, nil, []int{1}, []int{0, 1}},
		{api.Base{Links: []api.Link{link(1, 0, 0), link(0, 0, 0)}}, nil, []int{0, 1}, []int{0}},
		{full(), []int{0, 1, 2}, []int{0, 1}, []int{0, 1}},
	} {
		c.b.Names = names()
		concepts, roles, inds, e := kb.Uses(c.b)
		if !slices.Equal(concepts, c.concepts) || !slices.Equal(roles, c.roles) || !slices.Equal(inds, c.inds) || e != api.OK {
			t.Errorf("Uses of %s: %v %v %v, error %d", shown(c.b), concepts, roles, inds, e)
		}
	}
}

// P2.3: the names are those that the lines of the axioms mention.
func TestUsesOfLines(t *testing.T) {
	for _, b := range someBases(500) {
		var words []string
		count, _ := kb.Axioms(b)
		for k := range count {
			line, _ := kb.Line(b, k)
			tokens, _ := scan.Tokens(line, "()-<:,")
			words = append(words, tokens...)
		}
		mentioned := func(names []string) []int {
			var l []int
			for k, name := range names {
				if slices.Contains(words, name) {
					l = append(l, k)
				}
			}
			return l
		}
		concepts, roles, inds, e := kb.Uses(b)
		n := b.Names
		if e != api.OK || !slices.Equal(concepts, mentioned(n.Concepts)) || !slices.Equal(roles, mentioned(n.Roles)) || !slices.Equal(inds, mentioned(n.Inds)) {
			t.Errorf("Uses of %s: %v %v %v, error %d", shown(b), concepts, roles, inds, e)
		}
	}
}

// P2.3: knowledge bases that are not valid.
func TestUsesErrors(t *testing.T) {
	for _, b := range wrong() {
		concepts, roles, inds, e := kb.Uses(b)
		if len(concepts)+len(roles)+len(inds) > 0 || e != api.ErrBase {
			t.Errorf("Uses of %s: %v %v %v, error %d", shown(b), concepts, roles, inds, e)
		}
	}
}
