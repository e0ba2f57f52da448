package types_test

import (
	"fmt"
	"math"
	"math/rand"
	"slices"
	"strconv"
	"strings"
	"testing"

	"isagoge/api"
	"isagoge/concept"
	"isagoge/kb"
)

// declared are the lines of three concept names, three roles and two
// individuals.
const declared = "concept A\nconcept B\nconcept C\nrole r\nrole s\nrole t\nind a\nind b\n"

// parsed returns the knowledge base with the given lines, which are separated
// by semicolons.
func parsed(lines string) api.Base {
	b, e := kb.Parse(strings.ReplaceAll(lines, ";", "\n"))
	if e != api.OK {
		panic(lines)
	}
	return b
}

// based returns the knowledge base over the declared names that has the given
// axioms, which are separated by semicolons.
func based(axioms string) api.Base {
	return parsed(declared + axioms)
}

func names() api.Names {
	return based("").Names
}

// of returns the concept of a string over names.
func of(s string) api.Concept {
	c, e := concept.Parse(names(), s)
	if e != api.OK {
		panic(s)
	}
	return c
}

// listOf returns the concepts of a string in which semicolons separate them.
func listOf(s string) []api.Concept {
	var l []api.Concept
	for part := range strings.SplitSeq(s, ";") {
		if part != "" {
			l = append(l, of(part))
		}
	}
	return l
}

func name(n int) api.Concept {
	return api.Concept{Op: api.CName, N: n}
}

func top() api.Concept {
	return api.Concept{Op: api.CTop}
}

func bot() api.Concept {
	return api.Concept{Op: api.CBot}
}

func not(c api.Concept) api.Concept {
	return api.Concept{Op: api.CNot, Args: []api.Concept{c}}
}

func and(c, d api.Concept) api.Concept {
	return api.Concept{Op: api.CAnd, Args: []api.Concept{c, d}}
}

func or(c, d api.Concept) api.Concept {
	return api.Concept{Op: api.COr, Args: []api.Concept{c, d}}
}

func some(r int, c api.Concept) api.Concept {
	return api.Concept{Op: api.CSome, N: r, Args: []api.Concept{c}}
}

func all(r int, c api.Concept) api.Concept {
	return api.Concept{Op: api.CAll, N: r, Args: []api.Concept{c}}
}

// bushy returns a conjunction of leaves: it has 2 * leaves - 1 nodes, and
// about equally many on both sides of each node.
func bushy(leaves int, leaf api.Concept) api.Concept {
	if leaves == 1 {
		return leaf
	}
	return and(bushy(leaves/2, leaf), bushy(leaves-leaves/2, leaf))
}

// deep returns a conjunction of the given depth, with c at its deepest place.
func deep(depth int, c api.Concept) api.Concept {
	for range depth - 1 {
		c = and(top(), c)
	}
	return c
}

// manyNames has 16 concept names, 6 roles and the given number of individuals.
func manyNames(inds int) api.Names {
	var n api.Names
	for k := range 16 {
		n.Concepts = append(n.Concepts, "C"+strconv.Itoa(k))
	}
	for k := range 6 {
		n.Roles = append(n.Roles, "r"+strconv.Itoa(k))
	}
	for k := range inds {
		n.Inds = append(n.Inds, "a"+strconv.Itoa(k))
	}
	return n
}

// counted returns as many concepts as marks are asked for: concept names, and
// then quantified concepts.
func counted(inside, quantified int) []api.Concept {
	var l []api.Concept
	for k := range inside {
		l = append(l, name(k))
	}
	for k := range quantified {
		l = append(l, some(k, top()))
	}
	return l
}

// crowded is a knowledge base over names with nine marks.
func crowded() api.Base {
	return based("(A and (B and C)) < some r (some s A and some t B);a : all r all s all t C")
}

// wrongBases are knowledge bases that are not valid, each for one reason.
func wrongBases() []api.Base {
	var l []api.Base
	for _, change := range []func(b *api.Base){
		func(b *api.Base) { b.Names.Concepts[1] = "A" },
		func(b *api.Base) { b.Names.Roles[0] = "some" },
		func(b *api.Base) { b.Incls[0].Sub = name(3) },
		func(b *api.Base) { b.Incls[0].Super = some(6, top()) },
		func(b *api.Base) { b.Roles[0].Sub = 6 },
		func(b *api.Base) { b.Roles[0].Super = -1 },
		func(b *api.Base) { b.Facts[0].Ind = 2 },
		func(b *api.Base) { b.Facts[0].Concept.Op = 8 },
		func(b *api.Base) { b.Links[0].Role = 3 },
		func(b *api.Base) { b.Links[0].To = -1 },
		func(b *api.Base) { b.Roles = slices.Repeat(b.Roles, 58) },
		func(b *api.Base) { b.Facts[0].Concept = bushy(200, top()) },
	} {
		b := based("A < some r B;role r < s-;a : not A;(a, b) : t")
		change(&b)
		l = append(l, b)
	}
	return l
}

// wrongConcepts are concepts that are not valid over names.
func wrongConcepts() []api.Concept {
	return []api.Concept{
		name(3), name(-1), {Op: 8}, {Op: -1}, {Op: api.CTop, N: 1}, {Op: api.CNot}, some(6, top()), all(-1, top()),
		{Op: api.CSome, Args: []api.Concept{top(), top()}}, and(top(), name(3)), some(0, not(name(3))), deep(21, top()), bushy(201, name(0)),
	}
}

// farNumbers are numbers that are outside of all ranges.
func farNumbers() []int {
	return []int{math.MinInt, -1 << 32, -256, -1, 256, 1 << 32, math.MaxInt}
}

// random returns a concept over names of at most the given depth, with two of
// the roles.
func random(r *rand.Rand, depth int) api.Concept {
	op := r.Intn(8)
	if depth == 1 {
		op = r.Intn(6) % 3
	}
	switch op {
	case api.CNot:
		return not(random(r, depth-1))
	case api.CAnd:
		return and(random(r, depth-1), random(r, depth-1))
	case api.COr:
		return or(random(r, depth-1), random(r, depth-1))
	case api.CSome:
		return some(r.Intn(4), random(r, depth-1))
	case api.CAll:
		return all(r.Intn(4), random(r, depth-1))
	case api.CTop, api.CBot:
		if r.Intn(3) == 0 {
			return api.Concept{Op: op}
		}
	}
	return name(r.Intn(2))
}

// randomBase returns a knowledge base over names with a few axioms, and a few
// further concepts.
func randomBase(r *rand.Rand) (api.Base, []api.Concept) {
	b := api.Base{Names: names()}
	for range 1 + r.Intn(3) {
		b.Incls = append(b.Incls, api.Incl{Sub: random(r, 1+r.Intn(3)), Super: random(r, 1+r.Intn(3))})
	}
	for range r.Intn(3) {
		b.Roles = append(b.Roles, api.RoleIncl{Sub: r.Intn(4), Super: r.Intn(4)})
	}
	for range r.Intn(4) {
		b.Facts = append(b.Facts, api.Fact{Ind: r.Intn(2), Concept: random(r, 1+r.Intn(3))})
	}
	for range r.Intn(4) {
		b.Links = append(b.Links, api.Link{Role: r.Intn(2), From: r.Intn(2), To: r.Intn(2)})
	}
	var more []api.Concept
	for range r.Intn(3) {
		more = append(more, random(r, 1+r.Intn(3)))
	}
	return b, more
}

// text returns a knowledge base with further concepts as a string.
func text(b api.Base, more []api.Concept) string {
	s, _ := kb.String(b)
	for _, c := range more {
		line, _ := concept.String(b.Names, c)
		s += "with " + line + "\n"
	}
	return s
}

// shown returns a value as a string, in which an empty slice is written as nil
// is.
func shown(v any) string {
	return fmt.Sprintf("%+v", v)
}

// expect checks a result, and its error; with an error, want is the zero
// value.
func expect(t *testing.T, label string, got any, e api.Errno, want any, wantError api.Errno) {
	t.Helper()
	if shown(got) != shown(want) || e != wantError {
		t.Errorf("%s: %.500s, error %d, not %.500s, error %d", label, shown(got), e, shown(want), wantError)
	}
}
