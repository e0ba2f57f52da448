package search

import (
	"iter"

	"isagoge/api"
	"isagoge/hier"
)

// A graph is one of chapter 7, which is changed in place: what is added to it is
// noted on a trail, so that it can be undone.
type graph struct {
	parts
	// incls has, for each inclusion, the concept that RIncl adds.
	incls []int
	// below has, for each two roles, whether the first one is below the second.
	below [][]bool
	// roots is the number of nodes of the initial graph, size that of all nodes.
	roots, size int
	labels      [api.MaxDomain]label
	around      [api.MaxDomain][]neighbor
	trail       []event
}

// A label is the set of concepts of a node.
type label struct {
	// at has, for each concept, its position on the trail, plus 1, or 0 if the
	// label does not contain it.
	at []int
	// lists has the concepts of the label by their operators, in the order in
	// which they were added.
	lists [api.CAll + 1][]int
	// birth is the position on the trail of the node itself.
	birth int
	// isSettled is whether nothing has changed in the label, or in that of a
	// neighbor, since all disjunctions held there. It remains when edges vanish.
	isSettled bool
}

// A neighbor of a node is at the other end of an edge, which has a role in this
// direction and a position on the trail.
type neighbor struct {
	node, role, edge int
}

// An event is the addition of the node x, of an edge from x to y, or of a
// concept to the label of x.
type event struct {
	kind, x, y, concept int
}

// The kinds of events.
const (
	newNode = iota
	newEdge
	newConcept
)

// initial returns the initial graph of b, which is valid.
func initial(b api.Base) *graph {
	g := &graph{parts: parts{numbers: map[part]int{}}, below: belows(b), roots: max(1, len(b.Names.Inds))}
	for _, x := range b.Incls {
		not := api.Concept{Op: api.CNot, Args: []api.Concept{x.Sub}}
		c, _ := g.number(api.Concept{Op: api.COr, Args: []api.Concept{not, x.Super}})
		g.incls = append(g.incls, c)
	}
	// A label has a place for each concept that has a number before the label
	// appears.
	var facts []int
	for _, x := range b.Facts {
		c, _ := g.number(x.Concept)
		facts = append(facts, c)
	}
	for range g.roots {
		g.appear()
	}
	for _, x := range b.Links {
		g.link(x.From, 2*x.Role, x.To)
	}
	for k, x := range b.Facts {
		g.add(x.Ind, facts[k])
	}
	return g
}

// belows returns, for each two roles of b, whether the first one is below the
// second.
func belows(b api.Base) [][]bool {
	var table [][]bool
	for role := range 2 * len(b.Names.Roles) {
		row := make([]bool, 2*len(b.Names.Roles))
		above, _ := hier.Above(b, role)
		for _, s := range above {
			row[s] = true
		}
		table = append(table, row)
	}
	return table
}

// has reports whether c is in the label of x.
func (g *graph) has(x, c int) bool {
	return g.labels[x].at[c] > 0
}

// position returns where on the trail c was added to the label of x.
func (g *graph) position(x, c int) int {
	return g.labels[x].at[c] - 1
}

// neighbors yields the neighbors of x for a role.
func (g *graph) neighbors(x, role int) iter.Seq[neighbor] {
	return func(yield func(neighbor) bool) {
		for _, y := range g.around[x] {
			if g.below[y.role][role] && !yield(y) {
				return
			}
		}
	}
}

// appear adds a node with the next number and an empty label.
func (g *graph) appear() {
	l := &g.labels[g.size]
	if l.at == nil {
		l.at = make([]int, len(g.list))
	}
	l.birth = len(g.trail)
	l.isSettled = false
	g.trail = append(g.trail, event{kind: newNode, x: g.size})
	g.size++
}

// link adds an edge.
func (g *graph) link(from, role, to int) {
	g.around[from] = append(g.around[from], neighbor{to, role, len(g.trail)})
	g.around[to] = append(g.around[to], neighbor{from, inverse(role), len(g.trail)})
	g.trail = append(g.trail, event{kind: newEdge, x: from, y: to})
	g.labels[from].isSettled, g.labels[to].isSettled = false, false
}

func inverse(role int) int {
	return role ^ 1
}

// add adds c to the label of x.
func (g *graph) add(x, c int) {
	if g.has(x, c) {
		return
	}
	g.trail = append(g.trail, event{kind: newConcept, x: x, concept: c})
	l := &g.labels[x]
	l.at[c] = len(g.trail)
	op := g.list[c].op
	l.lists[op] = append(l.lists[op], c)
	g.unsettle(x)
}

// unsettle notes that the label of x changes.
func (g *graph) unsettle(x int) {
	g.labels[x].isSettled = false
	for _, y := range g.around[x] {
		g.labels[y.node].isSettled = false
	}
}

// undo removes what was added after the first events of the trail, as many as
// length says.
func (g *graph) undo(length int) {
	for len(g.trail) > length {
		last := g.trail[len(g.trail)-1]
		g.trail = withoutLast(g.trail)
		switch last.kind {
		case newNode:
			g.size--
		case newEdge:
			g.around[last.x] = withoutLast(g.around[last.x])
			g.around[last.y] = withoutLast(g.around[last.y])
		case newConcept:
			l := &g.labels[last.x]
			l.at[last.concept] = 0
			op := g.list[last.concept].op
			l.lists[op] = withoutLast(l.lists[op])
			g.unsettle(last.x)
		}
	}
}

func withoutLast[T any](list []T) []T {
	return list[:len(list)-1]
}
