package search

import (
	"isagoge/api"
	"isagoge/tree"
)

// shorter returns p, a proof in the graph, without the steps that add nothing in
// one of their ways: the Sub for that way is a proof in the graph, too.
func (g *graph) shorter(p api.Proof) api.Proof {
	m := g.moveOf(p)
	for way := range m.ways {
		if g.addsNothing(m, way) {
			return g.shorter(p.Subs[way])
		}
	}
	q := api.Proof{Rule: p.Rule, X: p.X, Y: p.Y, N: p.N, Concept: tree.Copy(p.Concept)}
	for way := range m.ways {
		q.Subs = append(q.Subs, g.shorterAfter(m, way, p.Subs[way]))
	}
	return q
}

// shorterAfter is shorter for a proof in the graph after one of the ways of a
// move.
func (g *graph) shorterAfter(m move, way int, p api.Proof) api.Proof {
	defer g.undo(len(g.trail))
	g.carryOut(m, way)
	return g.shorter(p)
}

// moveOf returns the move at the root of p, a proof in the graph.
func (g *graph) moveOf(p api.Proof) move {
	switch p.Rule {
	case api.RClash:
		return move{}
	case api.RIncl:
		return g.incl(p.X, p.N)
	}
	c, _ := g.number(p.Concept)
	switch p.Rule {
	case api.RAnd:
		return g.and(p.X, c)
	case api.ROr:
		return g.or(p.X, c)
	case api.RSome:
		return g.some(p.X, c)
	default:
		return g.all(p.X, neighbor{node: p.Y}, c)
	}
}

// addsNothing reports whether all that a move adds in one of its ways is there
// already.
func (g *graph) addsNothing(m move, way int) bool {
	if m.rule == api.RSome {
		return false
	}
	for _, c := range m.ways[way] {
		if !g.has(m.target, c) {
			return false
		}
	}
	return true
}
