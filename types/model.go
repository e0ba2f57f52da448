package types

import (
	"iter"
	"slices"

	"isagoge/api"
	"isagoge/marks"
)

// model returns the type model for surviving types and an assignment to them.
func (s *system) model(alive marks.Set, chosen []marks.Type) api.Interp {
	list := slices.Collect(alive.All())
	element := func(t marks.Type) int {
		k, _ := slices.BinarySearch(list, t)
		return k
	}
	i := api.Interp{Size: len(list)}
	for name := range s.base.Names.Concepts {
		var elements []int
		for t := range s.named(name).And(alive).All() {
			elements = append(elements, element(t))
		}
		i.Concepts = append(i.Concepts, elements)
	}
	for name := range s.base.Names.Roles {
		var pairs [][2]int
		for t, u := range s.pairs(2*name, alive) {
			pairs = append(pairs, [2]int{element(t), element(u)})
		}
		i.Roles = append(i.Roles, pairs)
	}
	for _, t := range chosen {
		i.Inds = append(i.Inds, element(t))
	}
	return i
}

// named returns the types that contain a concept name: none if it is not a
// mark.
func (s *system) named(name int) marks.Set {
	c := api.Concept{Op: api.CName, N: name}
	if !s.table.Covers(c) {
		return marks.Set{}
	}
	return s.table.True(c)
}

// pairs yields the pairs of types, of those that are given, of which the second
// one is a possible successor of the first one for a role, in increasing
// lexicographic order.
func (s *system) pairs(role int, of marks.Set) iter.Seq2[marks.Type, marks.Type] {
	return func(yield func(t, u marks.Type) bool) {
		next := s.successors(role)
		for t := range of.All() {
			for u := range next[t].And(of).All() {
				if !yield(t, u) {
					return
				}
			}
		}
	}
}
