package search

import (
	"slices"

	"isagoge/api"
)

// A selection has the nodes that become elements of a model, and edges between
// them that are not in the graph. The nodes of the initial graph are in it; one
// that was added for a concept `some r C` is in it only if no node that is in it
// can be the neighbor that the concept asks for.
type selection struct {
	nodes []int
	isIn  [api.MaxDomain]bool
	edges []edge
	// pending are nodes whose label has not been looked at.
	pending []int
}

// An edge leads from one node to another one, with a role.
type edge struct {
	from, role, to int
}

// glances is how many nodes of a selection count as much as another look: most of
// them are quickly seen not to suit.
const glances = 16

func (l *selection) take(x int) {
	l.nodes = append(l.nodes, x)
	l.isIn[x] = true
	l.pending = append(l.pending, x)
}

// next removes the last or the first of the pending nodes.
func (l *selection) next(last bool) int {
	if last {
		x := l.pending[len(l.pending)-1]
		l.pending = withoutLast(l.pending)
		return x
	}
	x := l.pending[0]
	l.pending = l.pending[1:]
	return x
}

// complete looks for a selection that is a model. It returns a move that adds a
// node, if one is missing, or a move for a disjunction that does not hold
// because of the further edges. If there is none, it notes the model.
func (s *search) complete() (m move, found bool) {
	chosen := &selection{}
	for x := range s.roots {
		chosen.take(x)
	}
	for len(chosen.pending) > 0 {
		if m, missing := s.supplyAll(chosen, chosen.next(s.isDeep)); missing {
			return m, true
		}
	}
	defer s.undo(len(s.trail))
	for _, e := range chosen.edges {
		s.link(e.from, e.role, e.to)
	}
	m, found = s.violation()
	if !found {
		s.model = s.candidate(chosen.nodes)
	}
	return m, found
}

// supplyAll looks for the neighbors that the label of x asks for, and returns a
// move that adds one if it is missing.
func (s *search) supplyAll(chosen *selection, x int) (move, bool) {
	for _, c := range s.labels[x].lists[api.CSome] {
		if s.supply(chosen, x, s.list[c]) {
			continue
		}
		if s.size == len(s.labels) {
			panic(exhausted{})
		}
		return s.some(x, c), true
	}
	return move{}, false
}

// supply looks for the neighbor that p, in the label of x, asks for: in the
// selection, with an edge of the graph or with a further one, and then among the
// nodes that were added for x. These are not needed if others can stand for them,
// although that may become known only after they were added.
func (s *search) supply(chosen *selection, x int, p part) bool {
	child, hasChild := 0, false
	for y := range s.neighbors(x, p.n) {
		s.work()
		if !s.holds(y.node, p.left, 0) {
			continue
		}
		if chosen.isIn[y.node] {
			return true
		}
		child, hasChild = y.node, true
	}
	for k, y := range chosen.nodes {
		if k%glances == 0 {
			s.work()
		}
		if s.holds(y, p.left, 0) && s.admits(x, p.n, y) && s.admits(y, inverse(p.n), x) {
			chosen.edges = append(chosen.edges, edge{x, p.n, y})
			return true
		}
	}
	if hasChild {
		chosen.take(child)
	}
	return hasChild
}

// admits reports whether what the label of x says about neighbors holds for y if
// an edge with a role leads to it.
func (s *search) admits(x, role, y int) bool {
	for _, c := range s.labels[x].lists[api.CAll] {
		p := s.list[c]
		if s.below[role][p.n] && !s.holds(y, p.left, 0) {
			return false
		}
	}
	return true
}

// candidate returns the interpretation whose elements are the given nodes.
func (s *search) candidate(nodes []int) api.Interp {
	i := api.Interp{Size: len(nodes)}
	for name := range s.names.Concepts {
		i.Concepts = append(i.Concepts, s.named(name, nodes))
	}
	for name := range s.names.Roles {
		i.Roles = append(i.Roles, s.pairs(2*name, nodes))
	}
	for x := range s.names.Inds {
		i.Inds = append(i.Inds, x)
	}
	return i
}

// named returns the positions of the nodes whose labels have a concept name.
func (s *search) named(name int, nodes []int) []int {
	c, known := s.numbers[part{op: api.CName, n: name}]
	var list []int
	for k, x := range nodes {
		if known && s.has(x, c) {
			list = append(list, k)
		}
	}
	return list
}

// pairs returns the pairs of positions of nodes that are neighbors for a role,
// in increasing lexicographic order.
func (s *search) pairs(role int, nodes []int) [][2]int {
	var list [][2]int
	for k, x := range nodes {
		var ends []int
		for y := range s.neighbors(x, role) {
			if end := slices.Index(nodes, y.node); end >= 0 {
				ends = append(ends, end)
			}
		}
		slices.Sort(ends)
		for _, end := range slices.Compact(ends) {
			list = append(list, [2]int{k, end})
		}
	}
	return list
}
