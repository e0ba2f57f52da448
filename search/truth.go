package search

import (
	"isagoge/api"
)

// The search works on a candidate for a model: its elements are nodes, each with
// just the concept names of its label, and its pairs are edges. A concept in a
// label counts as true, because the search goes on until it is.

// holds reports whether c is known to be true at x in the candidate. It looks at
// labels that are as many edges away from x as depth says.
func (s *search) holds(x, c, depth int) bool {
	if s.has(x, c) {
		return true
	}
	p := s.list[c]
	switch p.op {
	case api.CTop:
		return true
	case api.CNot:
		return !s.has(x, p.left)
	case api.CAnd:
		return s.holds(x, p.left, depth) && s.holds(x, p.right, depth)
	case api.COr:
		return s.holds(x, p.left, depth) || s.holds(x, p.right, depth)
	case api.CAll:
		return depth > 0 && s.holdsAround(x, p, depth-1)
	default:
		return false
	}
}

// holdsAround reports whether the argument of p holds at all neighbors of x for
// the role of p.
func (s *search) holdsAround(x int, p part, depth int) bool {
	for y := range s.neighbors(x, p.n) {
		s.work()
		if !s.holds(y.node, p.left, depth) {
			return false
		}
	}
	return true
}

// fails reports whether a clash is near if c is added to the label of x. It
// looks as far as holds does.
func (s *search) fails(x, c, depth int) bool {
	p := s.list[c]
	if p.op == api.CBot || s.has(x, s.negations[c]) {
		return true
	}
	switch p.op {
	case api.CAnd:
		return s.fails(x, p.left, depth) || s.fails(x, p.right, depth)
	case api.COr:
		return s.fails(x, p.left, depth) && s.fails(x, p.right, depth)
	case api.CAll:
		return depth > 0 && s.failsNear(x, p, depth-1)
	default:
		return false
	}
}

// failsNear reports whether the argument of p fails at some neighbor of x for
// the role of p.
func (s *search) failsNear(x int, p part, depth int) bool {
	for y := range s.neighbors(x, p.n) {
		s.work()
		if s.fails(y.node, p.left, depth) {
			return true
		}
	}
	return false
}

// open returns how many of the concepts that c joins by `or` do not fail at x.
func (s *search) open(x, c int) int {
	p := s.list[c]
	if p.op == api.COr {
		return s.open(x, p.left) + s.open(x, p.right)
	}
	if s.fails(x, c, 1) {
		return 0
	}
	return 1
}
