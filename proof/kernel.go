package proof

import (
	"slices"

	"isagoge/api"
	"isagoge/hier"
	"isagoge/tree"
)

// A kernel has what the rules ask of a knowledge base beside its initial graph.
type kernel struct {
	// incls has, for each inclusion, the concept that RIncl adds.
	incls []api.Concept
	// above has, for each role, the roles that it is below.
	above [][]int
}

// kernelOf returns the kernel of b, which is valid.
func kernelOf(b api.Base) *kernel {
	k := &kernel{}
	for _, x := range b.Incls {
		sides := []api.Concept{tree.Normal(x.Sub, true), tree.Normal(x.Super, false)}
		k.incls = append(k.incls, api.Concept{Op: api.COr, Args: sides})
	}
	for role := range 2 * len(b.Names.Roles) {
		above, _ := hier.Above(b, role)
		k.above = append(k.above, above)
	}
	return k
}

// A fault is what check panics with.
type fault struct {
	path []int
}

// fault returns the path to the first node of p that is wrong, and false if p
// is a proof in g. It says true until all of p has been checked: whatever stops
// the check, p is not accepted.
func (k *kernel) fault(p api.Proof, g graph) (path []int, found bool) {
	found = true
	defer func() {
		if f, ok := recover().(fault); ok {
			path = f.path
		}
	}()
	k.check(p, g, nil)
	return nil, false
}

// check panics at the first node of p that is wrong in its graph. The path is
// that from the root of the proof to p, which stands in the graph g.
func (k *kernel) check(p api.Proof, g graph, path []int) {
	graphs, applicable := step{k, g, p}.apply()
	if !applicable || len(graphs) != len(p.Subs) {
		panic(fault{slices.Clone(path)})
	}
	for place, sub := range p.Subs {
		k.check(sub, graphs[place], append(path, place))
	}
}
