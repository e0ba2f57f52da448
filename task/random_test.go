package task_test

import (
	"fmt"
	"math/rand"
	"slices"
	"testing"

	"isagoge/api"
	"isagoge/interp"
	"isagoge/kb"
	"isagoge/task"
)

// random returns a concept with a number of nodes, over the declared names.
func random(r *rand.Rand, count int) api.Concept {
	switch {
	case count == 1 && r.Intn(4) == 0:
		return api.Concept{Op: api.CTop + r.Intn(2)}
	case count == 1:
		return name(r.Intn(3))
	case count > 2 && r.Intn(2) == 0:
		left := 1 + r.Intn(count-2)
		return api.Concept{Op: api.CAnd + r.Intn(2), Args: []api.Concept{random(r, left), random(r, count-1-left)}}
	case r.Intn(4) == 0:
		return not(random(r, count-1))
	}
	return api.Concept{Op: api.CSome + r.Intn(3)/2, N: r.Intn(6), Args: []api.Concept{random(r, count-1)}}
}

// randomAxiom returns an axiom of a kind over the declared names.
func randomAxiom(r *rand.Rand, kind int) api.Axiom {
	x := api.Axiom{Kind: kind}
	switch kind {
	case api.AIncl:
		x.Incl = api.Incl{Sub: random(r, 1+r.Intn(2)), Super: random(r, 1+r.Intn(4))}
	case api.ARole:
		x.Role = api.RoleIncl{Sub: r.Intn(6), Super: r.Intn(6)}
	case api.AFact:
		x.Fact = api.Fact{Ind: r.Intn(2), Concept: random(r, 1+r.Intn(4))}
	case api.ALink:
		x.Link = api.Link{Role: r.Intn(3), From: r.Intn(2), To: r.Intn(2)}
	}
	return x
}

// with returns b with a further axiom.
func with(b api.Base, x api.Axiom) api.Base {
	switch x.Kind {
	case api.AIncl:
		b.Incls = slices.Concat(b.Incls, []api.Incl{x.Incl})
	case api.ARole:
		b.Roles = slices.Concat(b.Roles, []api.RoleIncl{x.Role})
	case api.AFact:
		b.Facts = slices.Concat(b.Facts, []api.Fact{x.Fact})
	case api.ALink:
		b.Links = slices.Concat(b.Links, []api.Link{x.Link})
	}
	return b
}

// randomBase returns a knowledge base over the declared names with a few axioms,
// more of them inclusions.
func randomBase(r *rand.Rand) api.Base {
	b := based("")
	for range r.Intn(9) {
		b = with(b, randomAxiom(r, []int{api.AIncl, api.AIncl, api.ARole, api.AFact, api.ALink}[r.Intn(5)]))
	}
	return b
}

// P9.2: verdicts for random axioms of all kinds, compared with knowledge bases
// that refute them.
func TestRandom(t *testing.T) {
	r := rand.New(rand.NewSource(1))
	met := map[string]int{}
	for range 400 {
		b := randomBase(r)
		for kind := range 4 {
			x := randomAxiom(r, kind)
			asked(t, b, x, r.Intn(3))
			v := asked(t, b, x, api.MaxSteps)
			if v.Known && expectAgreement(t, b, x, v) {
				met[fmt.Sprint(kind, v.Holds)]++
			} else {
				met["unknown"]++
			}
		}
	}
	if len(met) < 8 || met["unknown"] > 0 {
		t.Error(met)
	}
	for verdict, count := range met {
		if count < 30 {
			t.Errorf("%s: %d times", verdict, count)
		}
	}
}

// P9.5: every axiom of a knowledge base is entailed by it.
func TestAxiomsAreEntailed(t *testing.T) {
	r := rand.New(rand.NewSource(2))
	bases := []api.Base{based(full), based("a : bot;A < B;role r < s;(a, b) : r")}
	for range 150 {
		bases = append(bases, randomBase(r))
	}
	for _, b := range bases {
		count, _ := kb.Axioms(b)
		for i := range count {
			x, e := task.Axiom(b, i)
			if e != api.OK {
				t.Errorf("%s%d: error %d", text(b), i, e)
			}
			if v := asked(t, b, x, api.MaxSteps); !v.Known || !v.Holds {
				t.Errorf("%s%d: known: %v, holds: %v", text(b), i, v.Known, v.Holds)
			}
			if v := asked(t, b, x, r.Intn(3)); v.Known && !v.Holds {
				t.Errorf("%s%d does not hold", text(b), i)
			}
		}
	}
}

// P9.7: what is entailed is entailed with more axioms, too.
func TestMoreAxioms(t *testing.T) {
	r := rand.New(rand.NewSource(3))
	count := 0
	for range 500 {
		b := randomBase(r)
		x := randomAxiom(r, r.Intn(4))
		v := asked(t, b, x, api.MaxSteps)
		if !v.Known || !v.Holds {
			continue
		}
		for range 5 {
			b = with(b, randomAxiom(r, r.Intn(4)))
			if v := asked(t, b, x, api.MaxSteps); !v.Known || !v.Holds {
				t.Errorf("%s%+v: known: %v, holds: %v", text(b), x, v.Known, v.Holds)
			}
			count++
		}
	}
	if count < 300 {
		t.Errorf("%d verdicts", count)
	}
}

// randomInterp returns an interpretation of the declared names.
func randomInterp(r *rand.Rand, size int) api.Interp {
	i := api.Interp{Size: size, Concepts: make([][]int, 3), Roles: make([][][2]int, 3), Inds: []int{r.Intn(size), r.Intn(size)}}
	for x := range size {
		for k := range 3 {
			if r.Intn(2) == 0 {
				i.Concepts[k] = append(i.Concepts[k], x)
			}
			for y := range size {
				if r.Intn(3) == 0 {
					i.Roles[k] = append(i.Roles[k], [2]int{x, y})
				}
			}
		}
	}
	return i
}

// P9.2: what is false in a model of some axioms is not entailed by them.
func TestModels(t *testing.T) {
	r := rand.New(rand.NewSource(4))
	count := 0
	for range 300 {
		i := randomInterp(r, 1+r.Intn(3))
		b := based("")
		for range 12 {
			x := randomAxiom(r, r.Intn(4))
			if isModel, _ := interp.Models(with(b, x), i); isModel {
				b = with(b, x)
				continue
			}
			if v := asked(t, b, x, api.MaxSteps); v.Holds {
				t.Errorf("%s%+v is false in %+v", text(b), x, i)
			}
			count++
		}
	}
	if count < 1000 {
		t.Errorf("%d verdicts", count)
	}
}

// P9.4, P9.6: classifications of random knowledge bases.
func TestRandomClassifications(t *testing.T) {
	r := rand.New(rand.NewSource(5))
	met := map[string]bool{}
	for range 150 {
		b := randomBase(r)
		classified(t, b, r.Intn(3))
		matrix, known := classified(t, b, api.MaxSteps)
		if !known {
			t.Errorf("%s: not known", text(b))
		}
		met[rows(matrix)] = true
	}
	if len(met) < 10 {
		t.Error(met)
	}
}
