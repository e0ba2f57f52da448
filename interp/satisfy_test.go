package interp_test

import (
	"math"
	"math/rand"
	"slices"
	"testing"

	"isagoge/api"
	"isagoge/interp"
	"isagoge/kb"
)

// based returns the knowledge base over names with the given lines.
func based(lines string) api.Base {
	b, e := kb.Parse("concept A\nconcept B\nconcept C1\nrole r\nrole s_2\nind a\nind b_1\n" + lines)
	if e != api.OK {
		panic(lines)
	}
	return b
}

// verdicts checks the results of True, Models and Wrong against the numbers of
// the axioms that are not satisfied.
func verdicts(t *testing.T, b api.Base, i api.Interp, wrong []int) {
	t.Helper()
	label := " of " + shown(b) + " in " + shown(i)
	got, e := interp.Wrong(b, i)
	expect(t, "Wrong"+label, got, e, wrong, api.OK)
	isModel, e := interp.Models(b, i)
	expect(t, "Models"+label, isModel, e, len(wrong) == 0, api.OK)
	count, _ := kb.Axioms(b)
	for k := range count {
		satisfied, e := interp.True(b, i, k)
		expect(t, "True "+shown(k)+label, satisfied, e, !slices.Contains(wrong, k), api.OK)
	}
	for _, k := range []int{-1, count, count + 1, math.MinInt, math.MaxInt} {
		satisfied, e := interp.True(b, i, k)
		expect(t, "True "+shown(k)+label, satisfied, e, false, api.ErrArg)
	}
}

// P3.3: each kind of axiom by itself.
func TestSatisfaction(t *testing.T) {
	for line, want := range map[string]bool{
		"A < A": true, "A < B": false, "B < not A": true, "bot < C1": true, "C1 < bot": true, "top < A": false, "B < A": false, "some r B < A": true, "A < some r A": true,
		"A < all r- A": false, "all s_2 bot < A": true,
		"role r < r": true, "role r- < r-": true, "role r < r-": false, "role s_2 < r-": true, "role s_2- < r": true, "role s_2 < r": false, "role r- < s_2": false, "role r < s_2-": false, "role r < s_2": false,
		"a : A": true, "b_1 : A": true, "a : B": false, "a : not B": true, "a : some r top": true, "b_1 : some s_2 top": false, "a : some s_2 A": true, "b_1 : all s_2 bot": true, "a : all r A": true, "b_1 : all r A": false,
		"(a, b_1) : s_2": true, "(b_1, a) : s_2": false, "(b_1, a) : r": true, "(a, b_1) : r": false, "(a, a) : r": true, "(b_1, b_1) : r": false, "(a, a) : s_2": false,
	} {
		var wrong []int
		if !want {
			wrong = []int{0}
		}
		verdicts(t, based(line), three(), wrong)
	}
}

// P3.3: the axioms are numbered through all kinds.
func TestSatisfactionOfSeveral(t *testing.T) {
	for _, c := range []struct {
		lines string
		wrong []int
	}{
		{"", nil},
		{"A < B\nB < B\nrole r < s_2\nrole r < r\na : B\na : A\n(a, b_1) : r\n(a, a) : r", []int{0, 2, 4, 6}},
		{"B < B\nA < B\nrole r < r\nrole r < s_2\na : A\na : B\n(a, a) : r\n(a, b_1) : r", []int{1, 3, 5, 7}},
		{"B < B\nrole r < r\na : A\n(a, a) : r", nil},
		{"A < B\nrole r < s_2\na : B\n(a, b_1) : r", []int{0, 1, 2, 3}},
		{"a : A\n(a, b_1) : r", []int{1}},
		{"role r < r\n(a, b_1) : r\n(a, b_1) : r", []int{1, 2}},
		{"A < B\na : A", []int{0}},
		{"B < B\na : B", []int{1}},
		{"B < B\nrole r < s_2", []int{1}},
	} {
		verdicts(t, based(c.lines), three(), c.wrong)
	}
}

// P3.3: individuals that have the same element, names without elements, and a
// knowledge base without anything.
func TestSatisfactionOfSingle(t *testing.T) {
	verdicts(t, based("A < B\nrole r < s_2-\na : not A\na : all r bot\n(a, b_1) : r\n(b_1, b_1) : s_2"), single(), []int{4, 5})
	i := single()
	i.Concepts[0], i.Roles[0] = []int{0}, [][2]int{{0, 0}}
	verdicts(t, based("A < B\nrole r < r-\nrole r- < s_2\na : A\nb_1 : some r- A\n(a, b_1) : r\n(b_1, a) : r\n(b_1, b_1) : s_2"), i, []int{0, 2, 7})
	verdicts(t, api.Base{}, api.Interp{Size: 1}, nil)
	verdicts(t, api.Base{}, api.Interp{Size: 256}, nil)
}

// P3.3: as many elements, and as many axioms, as possible.
func TestSatisfactionOfPath(t *testing.T) {
	verdicts(t, based("A < some r not A\nnot B < some r top\nB < some r top\nrole r < s_2\nrole s_2 < s_2-\nrole s_2 < r\nb_1 : B\na : B\n(a, b_1) : s_2\n(b_1, a) : r"), path(), []int{2, 5, 7, 9})
	b := based("")
	for range 30 {
		b.Links = append(b.Links, api.Link{Role: 1, From: 0, To: 1}, api.Link{Role: 0, From: 1, To: 0})
	}
	var wrong []int
	for k := range 30 {
		wrong = append(wrong, 2*k+1)
	}
	verdicts(t, b, path(), wrong)
}

// P3.3, and DOC.md, Examples, 1: a consistent knowledge base and a model.
func TestSatisfactionOfExample(t *testing.T) {
	b, _ := kb.Parse("concept Human\nconcept Robot\nrole parent\nrole mother\nind eve\nind ann\nHuman < some parent Human\nHuman < not Robot\nrole mother < parent\neve : Human\n(eve, ann) : mother\n")
	loop := [][2]int{{0, 0}}
	model := api.Interp{Size: 1, Concepts: [][]int{{0}, nil}, Roles: [][][2]int{loop, loop}, Inds: []int{0, 0}}
	verdicts(t, b, model, nil)
	model.Concepts[1] = []int{0}
	verdicts(t, b, model, []int{1})
	model.Roles[0] = nil
	verdicts(t, b, model, []int{0, 1, 2})
}

// unsatisfied returns the numbers of the axioms of b that i does not satisfy, by
// the definition.
func unsatisfied(b api.Base, i api.Interp) []int {
	var satisfied []bool
	for _, x := range b.Incls {
		outside := func(y int) bool { return belongs(i, x.Sub, y) && !belongs(i, x.Super, y) }
		satisfied = append(satisfied, len(chosen(i, outside)) == 0)
	}
	for _, x := range b.Roles {
		outside := func(y, z int) bool { return isPair(i, x.Sub, y, z) && !isPair(i, x.Super, y, z) }
		begins := func(y int) bool { return len(chosen(i, func(z int) bool { return outside(y, z) })) > 0 }
		satisfied = append(satisfied, len(chosen(i, begins)) == 0)
	}
	for _, x := range b.Facts {
		satisfied = append(satisfied, belongs(i, x.Concept, i.Inds[x.Ind]))
	}
	for _, x := range b.Links {
		satisfied = append(satisfied, isPair(i, 2*x.Role, i.Inds[x.From], i.Inds[x.To]))
	}
	var wrong []int
	for k, ok := range satisfied {
		if !ok {
			wrong = append(wrong, k)
		}
	}
	return wrong
}

// P3.3: random knowledge bases and interpretations.
func TestSatisfactionOfRandom(t *testing.T) {
	r := rand.New(rand.NewSource(1))
	for range 3000 {
		b, i := randomBase(r), randomInterp(r)
		verdicts(t, b, i, unsatisfied(b, i))
	}
}

// renumbered returns i, in which each element x has the number to[x].
func renumbered(i api.Interp, to []int) api.Interp {
	k := api.Interp{Size: i.Size}
	for _, list := range i.Concepts {
		var moved []int
		for _, x := range list {
			moved = append(moved, to[x])
		}
		slices.Sort(moved)
		k.Concepts = append(k.Concepts, moved)
	}
	for _, pairs := range i.Roles {
		var moved [][2]int
		for _, p := range pairs {
			moved = append(moved, [2]int{to[p[0]], to[p[1]]})
		}
		slices.SortFunc(moved, func(p, q [2]int) int { return slices.Compare(p[:], q[:]) })
		k.Roles = append(k.Roles, moved)
	}
	for _, x := range i.Inds {
		k.Inds = append(k.Inds, to[x])
	}
	return k
}

// P3.5: renumbering the elements changes no truth.
func TestRenumbering(t *testing.T) {
	r := rand.New(rand.NewSource(1))
	interps := []api.Interp{three(), single(), path()}
	for range 1000 {
		interps = append(interps, randomInterp(r))
	}
	for _, i := range interps {
		b, c := randomBase(r), randomConcept(r, 4)
		to := r.Perm(i.Size)
		k := renumbered(i, to)
		wrong, e := interp.Wrong(b, i)
		again, f := interp.Wrong(b, k)
		expect(t, "Wrong after "+shown(to), again, f, wrong, e)
		list, e := interp.Elements(names(), c, i)
		for x, y := range list {
			list[x] = to[y]
		}
		slices.Sort(list)
		got, f := interp.Elements(names(), c, k)
		expect(t, "Elements after "+shown(to), got, f, list, e)
	}
}

// P3.3: ErrBase, then ErrInterp, then ErrArg.
func TestSatisfactionErrors(t *testing.T) {
	check := func(b api.Base, i api.Interp, want api.Errno) {
		t.Helper()
		label := shown(b) + " in " + shown(i)
		list, e := interp.Wrong(b, i)
		expect(t, "Wrong of "+label, list, e, []int{}, want)
		isModel, e := interp.Models(b, i)
		expect(t, "Models of "+label, isModel, e, false, want)
		for _, k := range []int{0, 1, 2, -1, math.MaxInt} {
			satisfied, e := interp.True(b, i, k)
			expect(t, "True of "+label, satisfied, e, false, want)
		}
	}
	fine := based("A < A\na : top")
	var wrong []api.Base
	for _, n := range wrongNames() {
		wrong = append(wrong, api.Base{Names: n})
	}
	for _, c := range wrongConcepts() {
		wrong = append(wrong, api.Base{Names: names(), Incls: []api.Incl{{Super: c}}}, api.Base{Names: names(), Facts: []api.Fact{{Concept: c}}})
	}
	wrong = append(wrong, api.Base{Names: names(), Roles: []api.RoleIncl{{Sub: 4}}}, api.Base{Names: names(), Links: []api.Link{{Role: 2}}}, api.Base{Names: names(), Links: make([]api.Link, 61)})
	for _, b := range wrong {
		for _, i := range append(wrongInterps(), three(), api.Interp{}) {
			check(b, i, api.ErrBase)
		}
	}
	for _, i := range append(wrongInterps(), api.Interp{}) {
		check(fine, i, api.ErrInterp)
		check(based(""), i, api.ErrInterp)
	}
	check(api.Base{}, three(), api.ErrInterp)
	check(fine, api.Interp{Size: 1}, api.ErrInterp)
}
