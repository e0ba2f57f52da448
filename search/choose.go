package search

import (
	"iter"

	"isagoge/api"
)

// choose returns the next move, and false if the candidate is a model. The first
// events of the trail, as many as done says, have no more consequences; further
// is their number after those that were looked at.
func (s *search) choose(done int) (m move, further int, found bool) {
	if m, found := s.contradiction(done); found {
		return m, done, true
	}
	for ; done < len(s.trail); done++ {
		if m, found := s.consequence(s.trail[done]); found {
			return m, done, true
		}
	}
	if m, found := s.violation(); found {
		return m, done, true
	}
	m, found = s.complete()
	return m, done, found
}

// contradiction returns a move that refutes the graph because of one of the
// events from a position on.
func (s *search) contradiction(from int) (move, bool) {
	for _, e := range s.trail[from:] {
		if e.kind != newConcept {
			continue
		}
		if s.list[e.concept].op == api.CBot || s.has(e.x, s.negations[e.concept]) {
			return s.clash(e.x, e.concept), true
		}
		if l, known := s.recall(e.x, e.concept); known {
			return s.quote(e.x, l), true
		}
	}
	return move{}, false
}

// consequence returns a move without a choice that follows from an event and
// adds something.
func (s *search) consequence(e event) (move, bool) {
	switch e.kind {
	case newConcept:
		return s.unfolding(e.x, e.concept)
	case newEdge:
		// The label of e.y got all that it has after the edge.
		return s.spreading(e.x)
	default:
		return move{}, false
	}
}

// spreading returns a move that adds something to the label of a neighbor of x.
func (s *search) spreading(x int) (move, bool) {
	for _, c := range s.labels[x].lists[api.CAll] {
		if m, found := s.unfolding(x, c); found {
			return m, true
		}
	}
	return move{}, false
}

// unfolding returns a move without a choice for c, in the label of x, that adds
// something.
func (s *search) unfolding(x, c int) (move, bool) {
	p := s.list[c]
	switch p.op {
	case api.CAnd:
		if !s.has(x, p.left) || !s.has(x, p.right) {
			return s.and(x, c), true
		}
	case api.CAll:
		for y := range s.neighbors(x, p.n) {
			if !s.has(y.node, p.left) {
				return s.all(x, y, c), true
			}
		}
	}
	return move{}, false
}

// violation returns a move for a disjunction that does not hold in the
// candidate: one of those that leave the least choice.
func (s *search) violation() (m move, found bool) {
	least := 0
	for x := range s.size {
		if s.labels[x].isSettled {
			continue
		}
		isRight := true
		for n, c := range s.violated(x) {
			isRight = false
			if open := s.open(x, c); !found || open < least {
				m, least, found = s.choice(x, n, c), open, true
			}
			if least <= 1 {
				return m, true
			}
		}
		s.labels[x].isSettled = isRight
	}
	return m, found
}

// violated yields the disjunctions of x that do not hold.
func (s *search) violated(x int) iter.Seq2[int, int] {
	return func(yield func(n, c int) bool) {
		for n, c := range s.disjunctions(x) {
			s.work()
			p := s.list[c]
			if !s.holds(x, p.left, 1) && !s.holds(x, p.right, 1) && !yield(n, c) {
				return
			}
		}
	}
}

// noIncl stands for the number of an inclusion where there is none.
const noIncl = -1

// disjunctions yields the disjunctions in the label of x and those that an
// inclusion, whose number comes first, can add to it.
func (s *search) disjunctions(x int) iter.Seq2[int, int] {
	return func(yield func(n, c int) bool) {
		for _, c := range s.labels[x].lists[api.COr] {
			if !yield(noIncl, c) {
				return
			}
		}
		for n, c := range s.incls {
			if !s.has(x, c) && !yield(n, c) {
				return
			}
		}
	}
}

// choice returns the move for a disjunction of x.
func (s *search) choice(x, n, c int) move {
	if n == noIncl {
		return s.or(x, c)
	}
	return s.incl(x, n)
}
