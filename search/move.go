package search

import (
	"isagoge/api"
)

// A move is the application of a rule in a graph, with fields like those of a
// proof. If there is a lemma, the move is the refutation that the lemma has,
// with x in the place of its node.
type move struct {
	rule, x, y, n, concept int
	lemma                  *lemma
	// ways has, for each Sub, the concepts that are added to the label of target.
	ways   [][]int
	target int
	// premises are the positions on the trail of all events without which the rule
	// could not be applied.
	premises []int
}

// clash returns the move for c and its negation, or for `bot`.
func (g *graph) clash(x, c int) move {
	premises := []int{g.position(x, c)}
	if g.list[c].op != api.CBot {
		premises = append(premises, g.position(x, g.negations[c]))
	}
	return move{rule: api.RClash, x: x, concept: c, premises: premises}
}

func (g *graph) and(x, c int) move {
	ways := [][]int{{g.list[c].left, g.list[c].right}}
	return move{rule: api.RAnd, x: x, concept: c, ways: ways, target: x, premises: []int{g.position(x, c)}}
}

func (g *graph) or(x, c int) move {
	ways := [][]int{{g.list[c].left}, {g.list[c].right}}
	return move{rule: api.ROr, x: x, concept: c, ways: ways, target: x, premises: []int{g.position(x, c)}}
}

func (g *graph) some(x, c int) move {
	ways := [][]int{{g.list[c].left}}
	return move{rule: api.RSome, x: x, concept: c, ways: ways, target: g.size, premises: []int{g.position(x, c)}}
}

func (g *graph) all(x int, y neighbor, c int) move {
	ways := [][]int{{g.list[c].left}}
	return move{rule: api.RAll, x: x, y: y.node, concept: c, ways: ways, target: y.node, premises: []int{g.position(x, c), y.edge}}
}

func (g *graph) incl(x, n int) move {
	return move{rule: api.RIncl, x: x, n: n, ways: [][]int{{g.incls[n]}}, target: x, premises: []int{g.labels[x].birth}}
}

// carryOut adds what a move adds in one of its ways.
func (g *graph) carryOut(m move, way int) {
	if m.rule == api.RSome {
		g.appear()
		g.link(m.x, g.list[m.concept].n, m.target)
	}
	for _, c := range m.ways[way] {
		g.add(m.target, c)
	}
}
