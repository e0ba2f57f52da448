package search

import (
	"maps"

	"isagoge/api"
)

// A search looks for a refutation of a graph.
type search struct {
	*graph
	names api.Names
	// lemmas has, for each concept, the lemmas about it; learned is how many there
	// are.
	lemmas  [][]*lemma
	learned int
	// isDeep is whether nodes are added where the last one was added.
	isDeep bool
	// budget is how much work the search may still do.
	budget int
	// model is the one that the search has come to.
	model api.Interp
}

// effort is how much work a search may do for each of its steps. The unit is a
// look at the label of a node.
const effort = 400

// exhausted is what a search that gives up panics with.
type exhausted struct{}

func (s *search) work() {
	if s.budget == 0 {
		panic(exhausted{})
	}
	s.budget--
}

// decide returns an answer for b after a search of some steps. There are two
// attempts, because a proof may be near although there are many nodes, or far
// away on a path. What the first one may cost does not depend on the steps, so
// that more of them never lead to less.
func decide(b api.Base, steps int) api.Answer {
	s := &search{graph: initial(b), names: b.Names}
	s.lemmas = make([][]*lemma, len(s.list))
	left := steps * effort
	for _, isDeep := range []bool{false, true} {
		given := min(left, api.MaxSteps/2*effort)
		s.isDeep, s.budget = isDeep, given
		if a := s.attempt(); a.Known {
			return a
		}
		left -= given - s.budget
	}
	return api.Answer{}
}

// attempt returns what a search comes to: whatever stops it, the answer is just
// not known.
func (s *search) attempt() (a api.Answer) {
	defer func() {
		recover()
	}()
	r := s.refute()
	if r == nil {
		return api.Answer{Known: true, Consistent: true, Model: s.model}
	}
	if r.size > api.MaxProof {
		return api.Answer{}
	}
	return api.Answer{Known: true, Proof: s.shorter(s.proof(r))}
}

// A refutation is a proof in the graph of the search. The numbers of its nodes
// are those of this graph, where nodes may have been added that it does not
// need.
type refutation struct {
	move
	subs []*refutation
	// size is that of the proof or, if that is too large, just too large: lemmas
	// can stand for more nodes than can be counted.
	size int
	// needs are the positions on the trail of the events that the refutation
	// depends on.
	needs map[int]bool
}

// refute returns a refutation of the graph, or nil if the search has come to a
// model. It leaves out moves that turn out not to be needed, with all of their
// other ways.
func (s *search) refute() *refutation {
	var refute func(done int) *refutation
	try := func(m move, way, done int) (r *refutation, isNeeded bool) {
		length := len(s.trail)
		defer s.undo(length)
		s.carryOut(m, way)
		r = refute(done)
		return r, r != nil && r.forget(length, len(s.trail))
	}
	refute = func(done int) *refutation {
		s.work()
		m, done, found := s.choose(done)
		if !found {
			return nil
		}
		r := begin(m)
		for way := range m.ways {
			sub, isNeeded := try(m, way, done)
			if !isNeeded {
				return sub
			}
			r.join(sub)
		}
		s.learn(r)
		return r
	}
	return refute(0)
}

// begin returns the refutation that begins with a move, without its Subs.
func begin(m move) *refutation {
	r := &refutation{move: m, size: 1, needs: map[int]bool{}}
	if m.lemma != nil {
		r.size = m.lemma.refutation.size
	}
	for _, position := range m.premises {
		r.needs[position] = true
	}
	return r
}

// forget removes positions from the needs of r, and reports whether any of them
// was there.
func (r *refutation) forget(from, to int) bool {
	found := false
	for position := from; position < to; position++ {
		found = found || r.needs[position]
		delete(r.needs, position)
	}
	return found
}

// join makes sub the next Sub of r, which takes over its needs.
func (r *refutation) join(sub *refutation) {
	r.subs = append(r.subs, sub)
	r.size = min(r.size+sub.size, api.MaxProof+1)
	if len(r.needs) < len(sub.needs) {
		r.needs, sub.needs = sub.needs, r.needs
	}
	maps.Copy(r.needs, sub.needs)
	sub.needs = nil
}
