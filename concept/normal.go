package concept

import (
	"isagoge/api"
)

// duals has, for each operator that negation exchanges with another one, that
// one.
var duals = [...]int{
	api.CTop:  api.CBot,
	api.CBot:  api.CTop,
	api.CAnd:  api.COr,
	api.COr:   api.CAnd,
	api.CSome: api.CAll,
	api.CAll:  api.CSome,
}

// Normal returns the negation normal form of c.
func Normal(n api.Names, c api.Concept) (api.Concept, api.Errno) {
	return normalOf(n, c, false)
}

// Not returns the negation normal form of the negation of c.
func Not(n api.Names, c api.Concept) (api.Concept, api.Errno) {
	return normalOf(n, c, true)
}

func normalOf(n api.Names, c api.Concept, negated bool) (api.Concept, api.Errno) {
	if e := Check(n, c); e != api.OK {
		return api.Concept{}, e
	}
	d := pushed(c, negated)
	if nodes, depth := Size(d); nodes > api.MaxNodes || depth > api.MaxDepth {
		return api.Concept{}, api.ErrLarge
	}
	return d, api.OK
}

// pushed returns the negation normal form of c or, if negated, of its
// negation. The negations that it meets on the way down are only counted, so
// that pairs of them vanish.
func pushed(c api.Concept, negated bool) api.Concept {
	if c.Op == api.CNot {
		return pushed(c.Args[0], !negated)
	}
	d := api.Concept{Op: c.Op, N: c.N}
	if negated && c.Op == api.CName {
		return api.Concept{Op: api.CNot, Args: []api.Concept{d}}
	}
	if negated {
		d.Op = duals[c.Op]
	}
	for _, arg := range c.Args {
		d.Args = append(d.Args, pushed(arg, negated))
	}
	return d
}
