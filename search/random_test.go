package search_test

import (
	"fmt"
	"math/rand"
	"testing"

	"isagoge/api"
	"isagoge/kb"
	"isagoge/types"
)

// random returns a concept with a number of nodes, over some concept names and
// some roles.
func random(r *rand.Rand, nodes, names, roles int) api.Concept {
	switch {
	case nodes == 1 && r.Intn(4) == 0:
		return api.Concept{Op: api.CTop + r.Intn(2)}
	case nodes == 1:
		return name(r.Intn(names))
	case nodes > 2 && r.Intn(2) == 0:
		left := 1 + r.Intn(nodes-2)
		return api.Concept{Op: api.CAnd + r.Intn(2), Args: []api.Concept{random(r, left, names, roles), random(r, nodes-1-left, names, roles)}}
	}
	arg := random(r, nodes-1, names, roles)
	switch r.Intn(4) {
	case 0:
		return not(arg)
	case 1:
		return all(r.Intn(2*roles), arg)
	}
	return some(r.Intn(2*roles), arg)
}

// randomBase returns a knowledge base over names with a few axioms.
func randomBase(r *rand.Rand) api.Base {
	b := api.Base{Names: names()}
	for range 1 + r.Intn(3) {
		b.Incls = append(b.Incls, api.Incl{Sub: random(r, 1+r.Intn(2), 2, 2), Super: random(r, 1+r.Intn(4), 2, 2)})
	}
	for range r.Intn(3) {
		b.Roles = append(b.Roles, api.RoleIncl{Sub: r.Intn(4), Super: r.Intn(4)})
	}
	for range 2 + r.Intn(4) {
		b.Facts = append(b.Facts, api.Fact{Ind: r.Intn(2), Concept: random(r, 1+r.Intn(5), 2, 2)})
	}
	for range r.Intn(4) {
		b.Links = append(b.Links, api.Link{Role: r.Intn(2), From: r.Intn(2), To: r.Intn(2)})
	}
	return b
}

// threeAxioms returns a knowledge base with at most three axioms, whose concepts
// have at most 12 nodes together.
func threeAxioms(r *rand.Rand) api.Base {
	n, names, roles := api.Names{}, 1+r.Intn(3), 1+r.Intn(2)
	for k := range names {
		n.Concepts = append(n.Concepts, fmt.Sprint("A", k))
	}
	for k := range roles {
		n.Roles = append(n.Roles, fmt.Sprint("r", k))
	}
	for k := range r.Intn(3) {
		n.Inds = append(n.Inds, fmt.Sprint("a", k))
	}
	b := api.Base{Names: n}
	nodes := 12
	for range 3 {
		size := 1 + r.Intn(max(1, nodes-2))
		switch kind := r.Intn(8); {
		case kind == 0:
			b.Roles = append(b.Roles, api.RoleIncl{Sub: r.Intn(2 * roles), Super: r.Intn(2 * roles)})
		case kind == 1 && len(n.Inds) > 0:
			b.Links = append(b.Links, api.Link{Role: r.Intn(roles), From: r.Intn(len(n.Inds)), To: r.Intn(len(n.Inds))})
		case kind <= 4 && len(n.Inds) > 0 && nodes > 0:
			b.Facts = append(b.Facts, api.Fact{Ind: r.Intn(len(n.Inds)), Concept: random(r, size, names, roles)})
			nodes -= size
		case nodes > 1:
			left := 1 + r.Intn(size)
			b.Incls = append(b.Incls, api.Incl{Sub: random(r, left, names, roles), Super: random(r, max(1, size-left), names, roles)})
			nodes -= left + max(1, size-left)
		}
	}
	return b
}

// P8.1, P8.4: knowledge bases with three axioms and 12 nodes.
func TestThreeAxioms(t *testing.T) {
	r := rand.New(rand.NewSource(1))
	count := 0
	for range 6000 {
		b := threeAxioms(r)
		consistent, e := types.Consistent(b)
		if e != api.OK {
			continue
		}
		steps := 0
		if !consistent {
			steps = api.MaxSteps
			count++
		}
		expectVerdict(t, b, steps, consistent)
	}
	if count < 300 {
		t.Errorf("%d knowledge bases are inconsistent", count)
	}
}

// large returns a knowledge base with up to 16 concept names, 6 roles, 10
// individuals, and 60 axioms.
func large(r *rand.Rand) api.Base {
	n, names, roles := api.Names{}, 2+r.Intn(15), 1+r.Intn(6)
	for k := range names {
		n.Concepts = append(n.Concepts, fmt.Sprint("A", k))
	}
	for k := range roles {
		n.Roles = append(n.Roles, fmt.Sprint("r", k))
	}
	for k := range r.Intn(11) {
		n.Inds = append(n.Inds, fmt.Sprint("a", k))
	}
	b := api.Base{Names: n}
	size := 1 + r.Intn(8)
	for range r.Intn(30) {
		b.Incls = append(b.Incls, api.Incl{Sub: random(r, 1+r.Intn(1+size/2), names, roles), Super: random(r, 1+r.Intn(size), names, roles)})
	}
	for range r.Intn(5) {
		b.Roles = append(b.Roles, api.RoleIncl{Sub: r.Intn(2 * roles), Super: r.Intn(2 * roles)})
	}
	for range r.Intn(15) * min(1, len(n.Inds)) {
		b.Facts = append(b.Facts, api.Fact{Ind: r.Intn(len(n.Inds)), Concept: random(r, 1+r.Intn(size), names, roles)})
	}
	for range r.Intn(11) * min(1, len(n.Inds)) {
		b.Links = append(b.Links, api.Link{Role: r.Intn(roles), From: r.Intn(len(n.Inds)), To: r.Intn(len(n.Inds))})
	}
	return b
}

// P8.1, P8.4, P8.5: larger knowledge bases. Very few of them are too difficult.
func TestLarge(t *testing.T) {
	r := rand.New(rand.NewSource(1))
	verdicts := map[string]int{}
	for range 700 {
		b := large(r)
		if kb.Check(b) != api.OK {
			continue
		}
		before := asked(t, b, r.Intn(50))
		a := asked(t, b, api.MaxSteps)
		if before.Known && (!a.Known || a.Consistent != before.Consistent) {
			t.Errorf("%.700s: known: %v, consistent: %v", text(b), a.Known, a.Consistent)
		}
		switch {
		case !a.Known:
			verdicts["unknown"]++
		case a.Consistent:
			verdicts["consistent"]++
		default:
			verdicts["inconsistent"]++
		}
		if !before.Known && a.Known {
			verdicts["late"]++
		}
	}
	if verdicts["unknown"] > 2 || verdicts["consistent"] < 150 || verdicts["inconsistent"] < 150 || verdicts["late"] < 10 {
		t.Error(verdicts)
	}
}
