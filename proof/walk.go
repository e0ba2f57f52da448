package proof

import (
	"iter"

	"isagoge/api"
)

// walk yields the nodes of any tree of proofs in preorder, each with its level
// (1 at the root). It goes no further into the tree than it is ranged over.
func walk(p api.Proof) iter.Seq2[int, api.Proof] {
	return func(yield func(int, api.Proof) bool) {
		visit(p, 1, yield)
	}
}

// visit reports whether yield asks for more nodes after those of p.
func visit(p api.Proof, level int, yield func(int, api.Proof) bool) bool {
	if !yield(level, p) {
		return false
	}
	for _, sub := range p.Subs {
		if !visit(sub, level+1, yield) {
			return false
		}
	}
	return true
}

// isLarge reports whether p exceeds one of the limits. It looks no further than
// that, because Subs that share memory may stand for more nodes than can be
// visited.
func isLarge(p api.Proof) bool {
	size := 0
	for level := range walk(p) {
		size++
		if size > api.MaxProof || level > api.MaxHeight {
			return true
		}
	}
	return false
}
