package search

import (
	"slices"

	"isagoge/api"
)

// A lemma says that no node can have some concepts together: there is a
// refutation that depends on nothing but these concepts in the label of a node.
// It holds for any other node in the place of that one.
type lemma struct {
	concepts   []int
	node       int
	refutation *refutation
}

// maxLemma is how many concepts a lemma may have, maxLemmas how many lemmas there
// may be: more of them cost more than they save.
const (
	maxLemma  = 8
	maxLemmas = 1000
)

// learn notes the lemma that r says, if it says one and is not just a step on the
// way to it. Concepts of all lemmas about c are in a list for c.
func (s *search) learn(r *refutation) {
	if r.rule != api.ROr && r.rule != api.RSome || len(r.needs) > maxLemma || s.learned == maxLemmas {
		return
	}
	l := &lemma{node: r.x, refutation: r}
	for position := range r.needs {
		e := s.trail[position]
		if e.kind != newConcept || e.x != r.x {
			return
		}
		l.concepts = append(l.concepts, e.concept)
	}
	slices.Sort(l.concepts)
	for _, c := range l.concepts {
		s.lemmas[c] = append(s.lemmas[c], l)
	}
	s.learned++
}

// recall returns a lemma that says that c cannot be in the label of x, where it
// is.
func (s *search) recall(x, c int) (*lemma, bool) {
	for _, l := range s.lemmas[c] {
		if !slices.ContainsFunc(l.concepts, func(d int) bool { return !s.has(x, d) }) {
			return l, true
		}
	}
	return nil, false
}

// quote returns the move that applies a lemma to x.
func (s *search) quote(x int, l *lemma) move {
	m := move{x: x, lemma: l}
	for _, c := range l.concepts {
		m.premises = append(m.premises, s.position(x, c))
	}
	return m
}
