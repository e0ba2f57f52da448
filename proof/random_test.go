package proof_test

import (
	"maps"
	"math/rand"
	"slices"

	"isagoge/api"
)

// random returns a concept over names of at most the given depth, with two of
// the names and two of the roles.
func random(r *rand.Rand, depth int) api.Concept {
	op := r.Intn(8)
	if depth == 1 {
		op = r.Intn(6) % 3
	}
	switch op {
	case api.CNot:
		return not(random(r, depth-1))
	case api.CAnd:
		return and(random(r, depth-1), random(r, depth-1))
	case api.COr:
		return or(random(r, depth-1), random(r, depth-1))
	case api.CSome:
		return some(r.Intn(4), random(r, depth-1))
	case api.CAll:
		return all(r.Intn(4), random(r, depth-1))
	case api.CTop, api.CBot:
		if r.Intn(3) == 0 {
			return api.Concept{Op: op}
		}
	}
	return name(r.Intn(2))
}

// randomBase returns a knowledge base over names with a few axioms.
func randomBase(r *rand.Rand) api.Base {
	b := api.Base{Names: names()}
	for range 1 + r.Intn(3) {
		b.Incls = append(b.Incls, api.Incl{Sub: random(r, 1+r.Intn(2)), Super: random(r, 1+r.Intn(3))})
	}
	for range r.Intn(3) {
		b.Roles = append(b.Roles, api.RoleIncl{Sub: r.Intn(4), Super: r.Intn(4)})
	}
	for range 2 + r.Intn(4) {
		b.Facts = append(b.Facts, api.Fact{Ind: r.Intn(2), Concept: random(r, 1+r.Intn(3))})
	}
	for range r.Intn(4) {
		b.Links = append(b.Links, api.Link{Role: r.Intn(2), From: r.Intn(2), To: r.Intn(2)})
	}
	return b
}

// A prover looks for a proof by steps in a random order that each add something
// new, with at most six nodes in a graph and a limited number of steps.
type prover struct {
	definition
	random *rand.Rand
	steps  int
}

// proved returns a proof for b, and false if none was found.
func proved(r *rand.Rand, b api.Base) (api.Proof, bool) {
	v := &prover{defined(b), r, 400}
	return v.prove(v.initial())
}

func (v *prover) prove(g graph) (api.Proof, bool) {
	p, graphs := v.choose(g)
	if graphs == nil {
		return p, p.Rule == api.RClash && v.steps > 0
	}
	for _, after := range graphs {
		sub, found := v.prove(after)
		if !found {
			return api.Proof{}, false
		}
		p.Subs = append(p.Subs, sub)
	}
	return p, true
}

// choose returns a clash, or another step and the graphs after it. If there is
// none, the step is none.
func (v *prover) choose(g graph) (api.Proof, []graph) {
	v.steps--
	best, graphs := api.Proof{Rule: -1}, []graph(nil)
	for _, p := range v.candidates(g) {
		if p.Rule != api.RClash && (graphs != nil || v.steps <= 0) {
			continue
		}
		after, applicable := v.after(g, p)
		if applicable && p.Rule == api.RClash {
			return p, nil
		}
		if applicable && v.isNew(g, p, after) {
			best, graphs = p, after
		}
	}
	return best, graphs
}

// candidates returns steps, some of them applicable, in a random order.
func (v *prover) candidates(g graph) []api.Proof {
	var l []api.Proof
	for x, label := range g.labels {
		for n := range v.b.Incls {
			l = append(l, rIncl(x, n))
		}
		for _, s := range slices.Sorted(maps.Keys(label)) {
			p := api.Proof{X: x, Concept: label[s]}
			for rule := range api.RAll {
				p.Rule = rule
				l = append(l, p)
			}
			p.Rule = api.RAll
			for y := range g.labels {
				p.Y = y
				l = append(l, p)
			}
		}
	}
	v.random.Shuffle(len(l), func(i, k int) { l[i], l[k] = l[k], l[i] })
	return l
}

// isNew reports whether all graphs after a step have more than g, and RSome has
// not been applied to the same concept of the same node before.
func (v *prover) isNew(g graph, p api.Proof, after []graph) bool {
	if p.Rule == api.RSome {
		applied := slices.ContainsFunc(g.edges, func(e [3]int) bool {
			return e[0] == p.X && e[1] == p.Concept.N && e[2] >= len(v.b.Names.Inds) && v.isIn(g, e[2], p.Concept.Args[0])
		})
		return !applied && len(g.labels) < 6
	}
	return !slices.ContainsFunc(after, func(h graph) bool { return size(h) == size(g) })
}

// size returns how many concepts are in the labels of g.
func size(g graph) int {
	count := 0
	for _, label := range g.labels {
		count += len(label)
	}
	return count
}
