package concept

import (
	"isagoge/api"
	"isagoge/tree"
)

// Normal returns the negation normal form of c.
func Normal(n api.Names, c api.Concept) (api.Concept, api.Errno) {
	return normalOf(n, c, false)
}

// Not returns the negation normal form of the negation of c.
func Not(n api.Names, c api.Concept) (api.Concept, api.Errno) {
	return normalOf(n, c, true)
}

func normalOf(n api.Names, c api.Concept, negated bool) (api.Concept, api.Errno) {
	if e := Check(n, c); e != api.OK {
		return api.Concept{}, e
	}
	d := tree.Normal(c, negated)
	if nodes, depth := Size(d); nodes > api.MaxNodes || depth > api.MaxDepth {
		return api.Concept{}, api.ErrLarge
	}
	return d, api.OK
}
