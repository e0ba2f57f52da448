package types

import (
	"slices"

	"isagoge/api"
	"isagoge/hier"
	"isagoge/marks"
)

// A system is a knowledge base with further concepts, seen as conditions on
// types.
type system struct {
	base  api.Base
	table *marks.Table
	needs []need
}

// A need is what a mark `some r C` asks for.
type need struct {
	role int
	// owners are the types that contain the mark, and helpers those in which C
	// is true: what an owner asks for is a successor among them.
	owners, helpers marks.Set
}

// systemOf returns the system of b with further concepts: ErrBase, ErrConcept,
// ErrSpace.
func systemOf(b api.Base, more []api.Concept) (*system, api.Errno) {
	if e := marks.Check(b, more); e != api.OK {
		return nil, e
	}
	table, e := marks.Of(b, more)
	if e != api.OK {
		return nil, e
	}
	s := &system{base: b, table: table}
	for _, mark := range table.Marks() {
		if mark.Op == api.CSome {
			s.needs = append(s.needs, need{mark.N, table.True(mark), table.True(mark.Args[0])})
		}
	}
	return s, api.OK
}

// next returns the possible successors of the type t for a role, given the roles
// above it. A need of such a role excludes helpers if t is no owner. A need of
// the inverse of such a role excludes those that are no owners if t is a helper,
// since a successor reaches t by that inverse.
func (s *system) next(above []int, t marks.Type) marks.Set {
	next := s.table.Types()
	for _, n := range s.needs {
		if slices.Contains(above, n.role) && !n.owners.Has(t) {
			next = next.Minus(n.helpers)
		}
		if slices.Contains(above, inverse(n.role)) && n.helpers.Has(t) {
			next = next.And(n.owners)
		}
	}
	return next
}

// successors returns, for each type, its possible successors for a role.
func (s *system) successors(role int) []marks.Set {
	above, _ := hier.Above(s.base, role)
	var list []marks.Set
	for t := range s.table.Types().All() {
		list = append(list, s.next(above, t))
	}
	return list
}

func inverse(role int) int {
	return role ^ 1
}
