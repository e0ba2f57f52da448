package types_test

import (
	"math/rand"
	"slices"
	"testing"

	"isagoge/api"
	"isagoge/hier"
	"isagoge/interp"
	"isagoge/types"
)

// randomInterp returns an interpretation of names that satisfies the given role
// inclusions.
func randomInterp(r *rand.Rand, b api.Base) api.Interp {
	i := api.Interp{Size: 1 + r.Intn(4), Concepts: make([][]int, 3), Roles: make([][][2]int, 3)}
	i.Inds = []int{r.Intn(i.Size), r.Intn(i.Size)}
	of := make([]map[[2]int]bool, 6)
	for k := range of {
		of[k] = map[[2]int]bool{}
	}
	for k := range 3 {
		for x := range i.Size {
			if r.Intn(2) == 0 {
				i.Concepts[k] = append(i.Concepts[k], x)
			}
			for y := range i.Size {
				if r.Intn(3) > 0 {
					continue
				}
				above, _ := hier.Above(b, 2*k)
				for _, s := range above {
					of[s][[2]int{x, y}], of[s^1][[2]int{y, x}] = true, true
				}
			}
		}
	}
	for k := range 3 {
		for x := range i.Size {
			for y := range i.Size {
				if of[2*k][[2]int{x, y}] {
					i.Roles[k] = append(i.Roles[k], [2]int{x, y})
				}
			}
		}
	}
	return i
}

// satisfied returns the part of a knowledge base that an interpretation
// satisfies.
func satisfied(t *testing.T, b api.Base, i api.Interp) api.Base {
	t.Helper()
	wrong, e := interp.Wrong(b, i)
	if e != api.OK {
		t.Fatalf("Wrong: error %d", e)
	}
	part := api.Base{Names: b.Names}
	number := 0
	met := func() bool {
		number++
		return !slices.Contains(wrong, number-1)
	}
	for _, x := range b.Incls {
		if met() {
			part.Incls = append(part.Incls, x)
		}
	}
	for _, x := range b.Roles {
		if met() {
			part.Roles = append(part.Roles, x)
		}
	}
	for _, x := range b.Facts {
		if met() {
			part.Facts = append(part.Facts, x)
		}
	}
	for _, x := range b.Links {
		if met() {
			part.Links = append(part.Links, x)
		}
	}
	return part
}

// P6.5: in a model the marks of an element are a surviving type, the concepts
// that have elements are satisfiable, and the knowledge base is consistent.
func TestTypesOfModels(t *testing.T) {
	r := rand.New(rand.NewSource(6))
	seen := 0
	for range 1500 {
		whole, more := randomBase(r)
		i := randomInterp(r, whole)
		b := satisfied(t, whole, i)
		marks, e := hier.Marks(b, more)
		if e != api.OK {
			continue
		}
		numbers := make([]int, i.Size)
		for k, mark := range marks {
			for _, x := range belonging(t, b, mark, i) {
				numbers[x] |= 1 << k
			}
		}
		alive, e := types.Surviving(b, more)
		for _, number := range numbers {
			if !slices.Contains(alive, number) || e != api.OK {
				t.Errorf("%s: the type %d does not survive, error %d", text(b, more), number, e)
			}
		}
		for role := range 6 {
			pairs, _ := interp.Pairs(b.Names, i, role)
			for _, p := range pairs {
				if is, e := types.Possible(b, more, role, numbers[p[0]], numbers[p[1]]); !is || e != api.OK {
					t.Errorf("%s: %v of role %d are not possible, error %d", text(b, more), p, role, e)
				}
			}
		}
		if is, e := types.Consistent(b); !is || e != api.OK {
			t.Errorf("%s: not consistent, error %d", text(b, more), e)
		}
		for _, c := range sources(b, more) {
			if got, e := types.Satisfiable(b, c); !got && e == api.OK && len(belonging(t, b, c, i)) > 0 {
				t.Errorf("%s: %s is not satisfiable", text(b, more), shown(c))
			}
		}
		seen++
	}
	if seen < 1000 {
		t.Errorf("only %d models", seen)
	}
}

// P6.5: knowledge bases that are not consistent have no model among random
// interpretations, and those that are have their type model.
func TestVerdicts(t *testing.T) {
	r := rand.New(rand.NewSource(7))
	met := map[bool]int{}
	for range 800 {
		b, _ := randomBase(r)
		is, e := types.Consistent(b)
		if e != api.OK {
			continue
		}
		met[is]++
		if is {
			i, e := types.Model(b, nil)
			if models, f := interp.Models(b, i); !models || e != api.OK || f != api.OK {
				t.Errorf("%s: no model, errors %d and %d", text(b, nil), e, f)
			}
			continue
		}
		for range 30 {
			if i := randomInterp(r, b); len(satisfied(t, b, i).Facts) == len(b.Facts) {
				if models, _ := interp.Models(b, i); models {
					t.Errorf("%s has the model %v", text(b, nil), i)
				}
			}
		}
	}
	if min(met[true], met[false]) < 150 {
		t.Errorf("%d are consistent, %d are not", met[true], met[false])
	}
}

// small are knowledge bases over one name, one role and one individual.
func small(r *rand.Rand) api.Base {
	b := parsed("concept A;role r;ind a")
	part := func() api.Concept {
		c := name(0)
		if r.Intn(3) == 0 {
			c = top()
		}
		for range r.Intn(3) {
			c = [...]api.Concept{not(c), some(r.Intn(2), c), all(r.Intn(2), c)}[r.Intn(3)]
		}
		return c
	}
	for range 1 + r.Intn(3) {
		b.Incls = append(b.Incls, api.Incl{Sub: part(), Super: part()})
	}
	for range r.Intn(3) {
		b.Facts = append(b.Facts, api.Fact{Concept: part()})
	}
	if r.Intn(2) == 0 {
		b.Links = []api.Link{{}}
	}
	if r.Intn(4) == 0 {
		b.Roles = []api.RoleIncl{{Sub: 0, Super: 1}}
	}
	return b
}

// hasSmallModel reports whether a knowledge base as above has a model with at
// most three elements, of which the individual is the first one.
func hasSmallModel(b api.Base) bool {
	for size := 1; size <= 3; size++ {
		for choice := range 1 << (size + size*size) {
			i := api.Interp{Size: size, Concepts: [][]int{nil}, Roles: [][][2]int{nil}, Inds: []int{0}}
			for x := range size {
				if choice>>x&1 == 1 {
					i.Concepts[0] = append(i.Concepts[0], x)
				}
				for y := range size {
					if choice>>(size+size*x+y)&1 == 1 {
						i.Roles[0] = append(i.Roles[0], [2]int{x, y})
					}
				}
			}
			if models, _ := interp.Models(b, i); models {
				return true
			}
		}
	}
	return false
}

// P6.5: all small interpretations are tried. Most of the knowledge bases are too
// simple to need larger ones.
func TestSmallModels(t *testing.T) {
	r := rand.New(rand.NewSource(8))
	consistent, inconsistent, large := 0, 0, 0
	for range 500 {
		b := small(r)
		is, e := types.Consistent(b)
		if e != api.OK {
			continue
		}
		switch has := hasSmallModel(b); {
		case has && !is:
			t.Errorf("%s has a small model", text(b, nil))
		case has:
			consistent++
		case is:
			large++
		default:
			inconsistent++
		}
	}
	if min(consistent, inconsistent) < 50 || large > 20 {
		t.Errorf("%d with small models, %d with larger ones, %d without", consistent, large, inconsistent)
	}
}
