package concept

import (
	"iter"
	"slices"

	"isagoge/api"
	"isagoge/tree"
)

// walk yields the nodes of any tree in preorder, each with its level (1 at
// the root). It goes no further into the tree than it is ranged over, so that
// a tree that is too large costs no more than the limit that it exceeds.
func walk(c api.Concept) iter.Seq2[int, api.Concept] {
	return func(yield func(int, api.Concept) bool) {
		visit(c, 1, yield)
	}
}

// visit reports whether yield asks for more nodes after those of c.
func visit(c api.Concept, level int, yield func(int, api.Concept) bool) bool {
	if !yield(level, c) {
		return false
	}
	for _, arg := range c.Args {
		if !visit(arg, level+1, yield) {
			return false
		}
	}
	return true
}

// Subs returns the concepts that occur in c, in preorder, each only once.
func Subs(n api.Names, c api.Concept) ([]api.Concept, api.Errno) {
	if e := Check(n, c); e != api.OK {
		return nil, e
	}
	var parts []api.Concept
	for _, node := range walk(c) {
		met := func(part api.Concept) bool { return Same(part, node) }
		if !slices.ContainsFunc(parts, met) {
			parts = append(parts, tree.Copy(node))
		}
	}
	return parts, api.OK
}

// Uses returns the concept names and role names that occur in c, in
// increasing order.
func Uses(n api.Names, c api.Concept) (concepts, roles []int, e api.Errno) {
	if e := Check(n, c); e != api.OK {
		return nil, nil, e
	}
	for _, node := range walk(c) {
		switch node.Op {
		case api.CName:
			concepts = append(concepts, node.N)
		case api.CSome, api.CAll:
			roles = append(roles, node.N/2)
		}
	}
	return ascending(concepts), ascending(roles), api.OK
}

// ascending sorts a list in place and returns it without duplicates.
func ascending(list []int) []int {
	slices.Sort(list)
	return slices.Compact(list)
}
