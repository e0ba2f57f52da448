// Package tree has what several layers do with concepts as trees, whatever
// their size.
package tree

import (
	"isagoge/api"
)

// duals has, for each operator that negation exchanges with another one, that
// one.
var duals = [...]int{
	api.CTop:  api.CBot,
	api.CBot:  api.CTop,
	api.CAnd:  api.COr,
	api.COr:   api.CAnd,
	api.CSome: api.CAll,
	api.CAll:  api.CSome,
}

// Dual returns the operator that negation exchanges with op, which is none of
// CName and CNot.
func Dual(op int) int {
	return duals[op]
}

// Copy returns a concept equal to c that shares no memory with it.
func Copy(c api.Concept) api.Concept {
	d := api.Concept{Op: c.Op, N: c.N}
	for _, arg := range c.Args {
		d.Args = append(d.Args, Copy(arg))
	}
	return d
}

// Normal returns the negation normal form of c or, if negated, of its
// negation. It shares no memory with c. The negations that it meets on the way
// down are only counted, so that pairs of them vanish.
func Normal(c api.Concept, negated bool) api.Concept {
	if c.Op == api.CNot {
		return Normal(c.Args[0], !negated)
	}
	d := api.Concept{Op: c.Op, N: c.N}
	if negated && c.Op == api.CName {
		return api.Concept{Op: api.CNot, Args: []api.Concept{d}}
	}
	if negated {
		d.Op = duals[c.Op]
	}
	for _, arg := range c.Args {
		d.Args = append(d.Args, Normal(arg, negated))
	}
	return d
}
