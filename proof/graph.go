package proof

import (
	"slices"

	"isagoge/api"
	"isagoge/concept"
	"isagoge/tree"
)

// A graph has a label for each node, and edges. It never changes, so that the
// graphs of all branches of a proof may share what they have in common.
type graph struct {
	labels []*label
	edges  *edges
}

// A label is a set of concepts in negation normal form: one of them, and the
// others. The empty set is nil.
type label struct {
	api.Concept
	others *label
}

// has reports whether c is in l.
func (l *label) has(c api.Concept) bool {
	for ; l != nil; l = l.others {
		if concept.Same(l.Concept, c) {
			return true
		}
	}
	return false
}

// with returns the label that has c and the concepts of l, each only once:
// otherwise labels would become as long as proofs are high.
func (l *label) with(c api.Concept) *label {
	if l.has(c) {
		return l
	}
	return &label{c, l}
}

// An edge is a pair of nodes of a role.
type edge struct {
	from, role, to int
}

// edges is a list of edges: the last one, and the earlier ones. The empty list
// is nil.
type edges struct {
	edge
	earlier *edges
}

// initial returns the initial graph of b.
func initial(b api.Base) graph {
	g := graph{labels: make([]*label, max(1, len(b.Names.Inds)))}
	for _, x := range b.Facts {
		g = g.with(x.Ind, tree.Normal(x.Concept, false))
	}
	for _, x := range b.Links {
		g = g.linked(x.From, 2*x.Role, x.To)
	}
	return g
}

// isNode reports whether a number is that of a node of g.
func (g graph) isNode(x int) bool {
	return 0 <= x && x < len(g.labels)
}

// with returns g with further concepts in the label of x.
func (g graph) with(x int, further ...api.Concept) graph {
	g.labels = slices.Clone(g.labels)
	for _, c := range further {
		g.labels[x] = g.labels[x].with(c)
	}
	return g
}

// linked returns g with a further edge.
func (g graph) linked(from, role, to int) graph {
	g.edges = &edges{edge{from, role, to}, g.edges}
	return g
}

// grown returns g with a further node, which has the next number and the label
// with c alone, and an edge to it.
func (g graph) grown(from, role int, c api.Concept) graph {
	next := len(g.labels)
	g.labels = append(slices.Clone(g.labels), &label{c, nil})
	return g.linked(from, role, next)
}
