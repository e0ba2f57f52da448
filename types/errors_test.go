package types_test

import (
	"slices"
	"strings"
	"testing"

	"isagoge/api"
	"isagoge/interp"
	"isagoge/types"
)

// checkErrors checks that all functions return an error for a knowledge base
// and further concepts: Consistent without these, and Satisfiable with the last
// one.
func checkErrors(t *testing.T, label string, b api.Base, more []api.Concept, want api.Errno) {
	t.Helper()
	is, e := types.Possible(b, more, 0, 0, 0)
	expect(t, label+": Possible", is, e, false, want)
	list, e := types.Surviving(b, more)
	expect(t, label+": Surviving", list, e, []int(nil), want)
	list, e = types.Assign(b, more)
	expect(t, label+": Assign", list, e, []int(nil), want)
	i, e := types.Model(b, more)
	expect(t, label+": Model", i, e, api.Interp{}, want)
	if len(more) == 0 {
		is, e = types.Consistent(b)
		expect(t, label+": Consistent", is, e, false, want)
		is, e = types.Satisfiable(b, top())
		expect(t, label+": Satisfiable", is, e, false, want)
	} else if len(more) == 1 {
		is, e = types.Satisfiable(b, more[0])
		expect(t, label+": Satisfiable", is, e, false, want)
	}
}

// P6.1 to P6.3 (and R1, R2): knowledge bases that are not valid, then concepts
// that are not, then too many marks, also where no type would survive.
func TestErrors(t *testing.T) {
	tooMany := listOf("A;B;C;some r A;some r B;some r C;some s A;some s B;some s C")
	for _, wrong := range wrongBases() {
		for _, more := range [][]api.Concept{nil, {name(0)}, {name(3)}, tooMany} {
			checkErrors(t, "a wrong knowledge base", wrong, more, api.ErrBase)
		}
		wrong.Incls = append(wrong.Incls, api.Incl{Sub: top(), Super: bot()})
		checkErrors(t, "a wrong knowledge base", wrong, nil, api.ErrBase)
	}
	for _, wrong := range wrongConcepts() {
		for _, b := range []api.Base{based(""), based("A < some r B;a : bot"), based("top < bot"), crowded()} {
			for _, more := range [][]api.Concept{{wrong}, {wrong, name(0)}, {name(0), wrong}, append(slices.Clone(tooMany), wrong)} {
				checkErrors(t, "a wrong concept", b, more, api.ErrConcept)
			}
		}
	}
	for _, more := range [][]api.Concept{nil, {top()}, {name(0)}, tooMany} {
		checkErrors(t, "crowded", crowded(), more, api.ErrSpace)
	}
	for _, axioms := range []string{"", "top < bot", "a : bot", "role r < s"} {
		checkErrors(t, "too many", based(axioms), tooMany, api.ErrSpace)
	}
}

// The chapter lists no ErrLarge: marks that are too large for a concept are
// marks nevertheless. That of all r- D, where D is as many A, has a negation
// with 401 nodes and more.
func TestLargeMarks(t *testing.T) {
	c := all(1, bushy(134, name(0)))
	check := func(axioms string, fact api.Concept, want []int, satisfiable bool) {
		t.Helper()
		b := based(axioms)
		got, e := types.Surviving(b, []api.Concept{fact})
		expect(t, axioms, got, e, want, api.OK)
		is, e := types.Satisfiable(b, fact)
		expect(t, axioms, is, e, satisfiable, api.OK)

		b.Facts = append(b.Facts, api.Fact{Ind: 1, Concept: fact})
		is, e = types.Consistent(b)
		expect(t, axioms, is, e, satisfiable, api.OK)
		i, e := types.Model(b, nil)
		if !satisfiable {
			expect(t, axioms, i, e, api.Interp{}, api.ErrNone)
			return
		}
		expect(t, axioms, i.Size, e, len(want), api.OK)
		is, e = interp.Models(b, i)
		expect(t, axioms, is, e, true, api.OK)
	}
	check("", c, []int{0, 1, 2, 3}, true)
	check("", not(c), []int{0, 1, 2, 3}, true)
	check("top < A", c, []int{1}, true)
	check("top < A", not(c), []int{1}, false)
	check("A < bot", c, []int{0, 2}, true)
	check("top < (not A and some r- top)", c, []int{6}, false)
	check("top < (not A and some r- top)", not(c), []int{6}, true)

	b := api.Base{Names: manyNames(0)}
	checkErrors(t, "a large one beside too many", b, append(counted(8, 0), c), api.ErrSpace)
	is, e := types.Possible(b, append(counted(7, 0), c), 1, 0, 126)
	expect(t, "a large one", is, e, false, api.OK)
	is, e = types.Possible(b, append(counted(7, 0), c), 1, 0, 1)
	expect(t, "a large one", is, e, true, api.OK)
	is, e = types.Possible(b, append(counted(7, 0), c), 1, 128, 126)
	expect(t, "a large one", is, e, true, api.OK)
}

// An inclusion of A in B, as large as it may be: (not Sub or Super) is too large
// for a concept.
func TestLargeInclusions(t *testing.T) {
	for _, x := range []api.Incl{
		{Sub: bushy(199, name(0)), Super: name(1)},
		{Sub: bushy(100, name(0)), Super: bushy(100, name(1))},
		{Sub: deep(20, name(0)), Super: deep(20, name(1))},
		{Sub: name(0), Super: not(deep(18, not(name(1))))},
		{Sub: name(0), Super: not(or(deep(17, not(name(1))), bot()))},
	} {
		b := api.Base{Names: names(), Incls: []api.Incl{x}}
		got, e := types.Surviving(b, nil)
		expect(t, text(b, nil), got, e, []int{0, 2, 3}, api.OK)
	}
}

// A long list of further concepts (R10).
func TestManyConcepts(t *testing.T) {
	more := slices.Repeat(listOf("some r (A and B);all s not C;not some r (A and B)"), 3000)
	got, e := types.Surviving(based("A < bot;B < bot;C < bot"), more)
	expect(t, "a long list", got, e, []int{0}, api.OK)
	b := parsed(declared + strings.Repeat("A < bot;", 58) + "(a, b) : r;(b, a) : s")
	chosen, e := types.Assign(b, more)
	expect(t, "a long list", chosen, e, []int{0, 0}, api.OK)
}
