package proof

import (
	"slices"

	"isagoge/api"
	"isagoge/concept"
	"isagoge/tree"
)

// A step is a node of a proof together with the graph in which it is checked.
type step struct {
	*kernel
	graph
	api.Proof
}

// apply returns the graphs for the Subs of the step, and whether its rule is
// applicable.
func (s step) apply() ([]graph, bool) {
	rules := [...]func() ([]graph, bool){
		api.RClash: s.clash,
		api.RAnd:   s.and,
		api.ROr:    s.or,
		api.RSome:  s.some,
		api.RAll:   s.all,
		api.RIncl:  s.incl,
	}
	if s.Rule < 0 || s.Rule >= len(rules) || !s.isPlain() || !s.isNode(s.X) {
		return nil, false
	}
	return rules[s.Rule]()
}

// isPlain reports whether the fields that the rule does not use are zero
// values. All rules use X.
func (s step) isPlain() bool {
	switch s.Rule {
	case api.RAll:
		return s.N == 0
	case api.RIncl:
		return s.Y == 0 && concept.Same(s.Concept, api.Concept{})
	default:
		return s.Y == 0 && s.N == 0
	}
}

// concerns reports whether Concept has an operator and is in the label of X.
// What is in a label is a valid tree, whatever else Concept may be.
func (s step) concerns(op int) bool {
	return s.Concept.Op == op && s.labels[s.X].has(s.Concept)
}

func (s step) clash() ([]graph, bool) {
	if s.concerns(api.CBot) {
		return nil, true
	}
	l := s.labels[s.X]
	return nil, l.has(s.Concept) && l.has(tree.Normal(s.Concept, true))
}

func (s step) and() ([]graph, bool) {
	if !s.concerns(api.CAnd) {
		return nil, false
	}
	return []graph{s.with(s.X, s.Concept.Args...)}, true
}

func (s step) or() ([]graph, bool) {
	if !s.concerns(api.COr) {
		return nil, false
	}
	left, right := s.Concept.Args[0], s.Concept.Args[1]
	return []graph{s.with(s.X, left), s.with(s.X, right)}, true
}

func (s step) some() ([]graph, bool) {
	if !s.concerns(api.CSome) || len(s.labels) >= api.MaxElems {
		return nil, false
	}
	return []graph{s.grown(s.X, s.Concept.N, s.Concept.Args[0])}, true
}

func (s step) all() ([]graph, bool) {
	if !s.concerns(api.CAll) || !s.meets(s.Concept.N) {
		return nil, false
	}
	return []graph{s.with(s.Y, s.Concept.Args[0])}, true
}

// meets reports whether Y is a neighbor of X for a role, and so a node, too.
func (s step) meets(role int) bool {
	for e := s.edges; e != nil; e = e.earlier {
		if e.from == s.X && e.to == s.Y && slices.Contains(s.above[e.role], role) {
			return true
		}
		if e.from == s.Y && e.to == s.X && slices.Contains(s.above[inverse(e.role)], role) {
			return true
		}
	}
	return false
}

func inverse(role int) int {
	return role ^ 1
}

func (s step) incl() ([]graph, bool) {
	if s.N < 0 || s.N >= len(s.incls) {
		return nil, false
	}
	return []graph{s.with(s.X, s.incls[s.N])}, true
}
