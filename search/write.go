package search

import (
	"isagoge/api"
)

// proof returns a refutation of the initial graph as a proof.
func (s *search) proof(r *refutation) api.Proof {
	var numbers [api.MaxDomain]int
	for x := range s.roots {
		numbers[x] = x
	}
	return s.written(r, numbers, s.roots)
}

// written returns r as a proof in a graph with as many nodes as size says. The
// numbers are those that the nodes have there.
func (s *search) written(r *refutation, numbers [api.MaxDomain]int, size int) api.Proof {
	if r.lemma != nil {
		number := numbers[r.x]
		numbers[r.lemma.node] = number
		return s.written(r.lemma.refutation, numbers, size)
	}
	p := api.Proof{Rule: r.rule, X: numbers[r.x], N: r.n}
	switch r.rule {
	case api.RAll:
		p.Y = numbers[r.y]
	case api.RSome:
		numbers[r.target] = size
		size++
	}
	if r.rule != api.RIncl {
		p.Concept = s.concept(r.concept)
	}
	for _, sub := range r.subs {
		p.Subs = append(p.Subs, s.written(sub, numbers, size))
	}
	return p
}
