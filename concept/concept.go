// Package concept implements concepts: validity, normal forms, printing and
// parsing. It is layer 1: see shared/doc/01-concept.md.
package concept

import (
	"slices"

	"isagoge/api"
	"isagoge/scan"
)

// arity is the number of Args of each operator.
var arity = [...]int{
	api.CName: 0,
	api.CTop:  0,
	api.CBot:  0,
	api.CNot:  1,
	api.CAnd:  2,
	api.COr:   2,
	api.CSome: 1,
	api.CAll:  1,
}

// Names returns OK if n are valid names, and ErrBase otherwise.
func Names(n api.Names) api.Errno {
	if len(n.Concepts) > api.MaxConcepts || len(n.Roles) > api.MaxRoles || len(n.Inds) > api.MaxInds {
		return api.ErrBase
	}
	all := slices.Concat(n.Concepts, n.Roles, n.Inds)
	for i, name := range all {
		if !validName(name) || slices.Contains(all[:i], name) {
			return api.ErrBase
		}
	}
	return api.OK
}

func validName(s string) bool {
	return len(s) <= api.MaxName && scan.IsName(s)
}

// Check returns OK if c is a valid concept over n.
func Check(n api.Names, c api.Concept) api.Errno {
	if e := Names(n); e != api.OK {
		return e
	}
	nodes := 0
	for level, node := range walk(c) {
		nodes++
		if nodes > api.MaxNodes || level > api.MaxDepth || !wellFormed(n, node) {
			return api.ErrConcept
		}
	}
	return api.OK
}

// wellFormed reports whether the fields of a node, apart from the fields of
// its Args, are those of its operator.
func wellFormed(n api.Names, c api.Concept) bool {
	if c.Op < 0 || c.Op >= len(arity) || len(c.Args) != arity[c.Op] {
		return false
	}
	return 0 <= c.N && c.N < choices(n, c.Op)
}

// choices returns how many values N may have at a node: they begin with 0,
// and 0 is the only one where N has no meaning.
func choices(n api.Names, op int) int {
	switch op {
	case api.CName:
		return len(n.Concepts)
	case api.CSome, api.CAll:
		return 2 * len(n.Roles)
	default:
		return 1
	}
}

// Size returns the number of nodes and the depth of any tree.
func Size(c api.Concept) (nodes, depth int) {
	for level := range walk(c) {
		nodes++
		depth = max(depth, level)
	}
	return nodes, depth
}

// Same reports whether c and d are equal as trees.
func Same(c, d api.Concept) bool {
	return c.Op == d.Op && c.N == d.N && slices.EqualFunc(c.Args, d.Args, Same)
}
