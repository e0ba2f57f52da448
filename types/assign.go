package types

import (
	"slices"

	"isagoge/api"
	"isagoge/marks"
)

// maxAssignments is the number of choices of types for all individuals beyond
// which no assignment is looked for.
const maxAssignments = 1 << 20

// assign returns the first assignment to the surviving types, which are given:
// ErrNone, ErrSpace, ErrNone.
func (s *system) assign(alive marks.Set) ([]marks.Type, api.Errno) {
	if alive.Len() == 0 {
		return nil, api.ErrNone
	}
	if tooMany(alive.Len(), len(s.base.Names.Inds)) {
		return nil, api.ErrSpace
	}
	chosen, found := s.firstAssignment(alive)
	if !found {
		return nil, api.ErrNone
	}
	return chosen, api.OK
}

// tooMany reports whether there are more than maxAssignments ways to choose one
// of the types for each of the individuals.
func tooMany(types, inds int) bool {
	count := 1
	for range inds {
		count *= types
		if count > maxAssignments {
			return true
		}
	}
	return false
}

// firstAssignment chooses types for the individuals one after the other, the
// least ones first, and takes a choice back if it leads to nothing.
func (s *system) firstAssignment(alive marks.Set) ([]marks.Type, bool) {
	next := s.allSuccessors()
	choices := s.choices(alive, next)
	var chosen []marks.Type
	var extend func() bool
	extend = func() bool {
		ind := len(chosen)
		if ind == len(choices) {
			return true
		}
		for t := range s.linked(choices[ind], chosen, next).All() {
			chosen = append(chosen, t)
			if extend() {
				return true
			}
			chosen = chosen[:ind]
		}
		return false
	}
	found := extend()
	return chosen, found
}

// allSuccessors returns, for each role and each type, its possible successors.
func (s *system) allSuccessors() [][]marks.Set {
	var lists [][]marks.Set
	for role := range 2 * len(s.base.Names.Roles) {
		lists = append(lists, s.successors(role))
	}
	return lists
}

// choices returns, for each individual, the surviving types that agree with its
// facts and its links to itself.
func (s *system) choices(alive marks.Set, next [][]marks.Set) []marks.Set {
	choices := slices.Repeat([]marks.Set{alive}, len(s.base.Names.Inds))
	for _, x := range s.base.Facts {
		choices[x.Ind] = choices[x.Ind].And(s.table.True(x.Concept))
	}
	for _, x := range s.base.Links {
		if x.From == x.To {
			choices[x.From] = choices[x.From].And(loops(next[2*x.Role]))
		}
	}
	return choices
}

// loops returns the types that are among their own successors.
func loops(successors []marks.Set) marks.Set {
	var own marks.Set
	for k, ends := range successors {
		if t := marks.Type(k); ends.Has(t) {
			own = own.With(t)
		}
	}
	return own
}

// linked returns the choices for the next individual that agree with its links
// to and from those for which types are chosen.
func (s *system) linked(choices marks.Set, chosen []marks.Type, next [][]marks.Set) marks.Set {
	ind := len(chosen)
	for _, x := range s.base.Links {
		if x.To == ind && x.From < ind {
			choices = choices.And(next[2*x.Role][chosen[x.From]])
		}
		if x.From == ind && x.To < ind {
			choices = choices.And(next[inverse(2*x.Role)][chosen[x.To]])
		}
	}
	return choices
}
