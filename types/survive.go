package types

import (
	"isagoge/marks"
)

// allowed returns the types in which all inclusions are true.
func (s *system) allowed() marks.Set {
	allowed := s.table.Types()
	for _, x := range s.base.Incls {
		wrong := s.table.True(x.Sub).Minus(s.table.True(x.Super))
		allowed = allowed.Minus(wrong)
	}
	return allowed
}

// witnesses returns, for each need and each type, the possible successors that
// have what it asks for.
func (s *system) witnesses() [][]marks.Set {
	var lists [][]marks.Set
	for _, n := range s.needs {
		list := s.successors(n.role)
		for t := range list {
			list[t] = list[t].And(n.helpers)
		}
		lists = append(lists, list)
	}
	return lists
}

// surviving returns the surviving types: it removes those that lack a witness
// until there are none.
func (s *system) surviving() marks.Set {
	witnesses := s.witnesses()
	lives := func(t marks.Type, alive marks.Set) bool {
		for k, n := range s.needs {
			if n.owners.Has(t) && !witnesses[k][t].Meets(alive) {
				return false
			}
		}
		return true
	}
	alive := s.allowed()
	for {
		var left marks.Set
		for t := range alive.All() {
			if lives(t, alive) {
				left = left.With(t)
			}
		}
		if left == alive {
			return alive
		}
		alive = left
	}
}
