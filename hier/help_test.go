package hier_test

import (
	"fmt"
	"math"
	"math/rand"
	"slices"
	"strings"
	"testing"

	"isagoge/api"
	"isagoge/concept"
	"isagoge/kb"
)

// declared are the lines of three concept names, three roles and two
// individuals.
const declared = "concept A\nconcept B\nconcept C\nrole r\nrole s\nrole t\nind a\nind b\n"

// based returns the knowledge base over these names that has the given axioms,
// which are separated by semicolons.
func based(axioms string) api.Base {
	b, e := kb.Parse(declared + strings.ReplaceAll(axioms, ";", "\n"))
	if e != api.OK {
		panic(axioms)
	}
	return b
}

func names() api.Names {
	return based("").Names
}

// of returns the concept of a string over names.
func of(s string) api.Concept {
	c, e := concept.Parse(names(), s)
	if e != api.OK {
		panic(s)
	}
	return c
}

// listOf returns the concepts of a string in which semicolons separate them.
func listOf(s string) []api.Concept {
	var l []api.Concept
	for part := range strings.SplitSeq(s, ";") {
		if part != "" {
			l = append(l, of(part))
		}
	}
	return l
}

func name(n int) api.Concept {
	return api.Concept{Op: api.CName, N: n}
}

func top() api.Concept {
	return api.Concept{Op: api.CTop}
}

func bot() api.Concept {
	return api.Concept{Op: api.CBot}
}

func not(c api.Concept) api.Concept {
	return api.Concept{Op: api.CNot, Args: []api.Concept{c}}
}

func and(c, d api.Concept) api.Concept {
	return api.Concept{Op: api.CAnd, Args: []api.Concept{c, d}}
}

func or(c, d api.Concept) api.Concept {
	return api.Concept{Op: api.COr, Args: []api.Concept{c, d}}
}

func some(r int, c api.Concept) api.Concept {
	return api.Concept{Op: api.CSome, N: r, Args: []api.Concept{c}}
}

func all(r int, c api.Concept) api.Concept {
	return api.Concept{Op: api.CAll, N: r, Args: []api.Concept{c}}
}

// bushy returns a conjunction of leaves: it has 2 * leaves - 1 nodes, and
// about equally many on both sides of each node.
func bushy(leaves int, leaf api.Concept) api.Concept {
	if leaves == 1 {
		return leaf
	}
	return and(bushy(leaves/2, leaf), bushy(leaves-leaves/2, leaf))
}

// deep returns a conjunction of the given depth, with c at its deepest place.
func deep(depth int, c api.Concept) api.Concept {
	for range depth - 1 {
		c = and(top(), c)
	}
	return c
}

// included returns the knowledge base over names that has one inclusion.
func included(sub, super api.Concept) api.Base {
	return api.Base{Names: names(), Incls: []api.Incl{{Sub: sub, Super: super}}}
}

// stated returns the knowledge base over names that has one fact.
func stated(c api.Concept) api.Base {
	return api.Base{Names: names(), Facts: []api.Fact{{Ind: 1, Concept: c}}}
}

// wrongBases are knowledge bases that are not valid, each for one reason.
func wrongBases() []api.Base {
	var l []api.Base
	for _, change := range []func(b *api.Base){
		func(b *api.Base) { b.Names.Concepts[1] = "A" },
		func(b *api.Base) { b.Names.Roles[0] = "some" },
		func(b *api.Base) { b.Incls[0].Sub = name(3) },
		func(b *api.Base) { b.Incls[0].Super = some(6, top()) },
		func(b *api.Base) { b.Roles[0].Sub = 6 },
		func(b *api.Base) { b.Roles[0].Super = -1 },
		func(b *api.Base) { b.Facts[0].Ind = 2 },
		func(b *api.Base) { b.Facts[0].Concept.Op = 8 },
		func(b *api.Base) { b.Links[0].Role = 3 },
		func(b *api.Base) { b.Roles = slices.Repeat(b.Roles, 58) },
		func(b *api.Base) { b.Facts[0].Concept = bushy(200, top()) },
	} {
		b := based("A < some r B;role r < s-;a : not A;(a, b) : t")
		change(&b)
		l = append(l, b)
	}
	return l
}

// wrongConcepts are concepts that are not valid over names.
func wrongConcepts() []api.Concept {
	return []api.Concept{
		name(3), name(-1), {Op: 8}, {Op: -1}, {Op: api.CTop, N: 1}, {Op: api.CNot}, some(6, top()), all(-1, top()),
		{Op: api.CSome, Args: []api.Concept{top(), top()}}, and(top(), name(3)), some(0, not(name(3))), deep(21, top()), bushy(201, name(0)),
	}
}

// farNumbers are numbers that are outside of all ranges.
func farNumbers() []int {
	return []int{math.MinInt, -1 << 32, -256, -1, 256, 1 << 32, math.MaxInt}
}

// random returns a concept over names of at most the given depth.
func random(r *rand.Rand, depth int) api.Concept {
	op := r.Intn(8)
	if depth == 1 {
		op = r.Intn(3)
	}
	switch op {
	case api.CName:
		return name(r.Intn(3))
	case api.CNot:
		return not(random(r, depth-1))
	case api.CAnd:
		return and(random(r, depth-1), random(r, depth-1))
	case api.COr:
		return or(random(r, depth-1), random(r, depth-1))
	case api.CSome:
		return some(r.Intn(4), random(r, depth-1))
	case api.CAll:
		return all(r.Intn(4), random(r, depth-1))
	}
	return api.Concept{Op: op}
}

// randomBase returns a knowledge base over names with a few axioms, and a few
// further concepts.
func randomBase(r *rand.Rand) (api.Base, []api.Concept) {
	b := api.Base{Names: names()}
	for range r.Intn(4) {
		b.Incls = append(b.Incls, api.Incl{Sub: random(r, 1+r.Intn(4)), Super: random(r, 1+r.Intn(5))})
	}
	for range r.Intn(4) {
		b.Facts = append(b.Facts, api.Fact{Ind: r.Intn(2), Concept: random(r, 1+r.Intn(4))})
	}
	var more []api.Concept
	for range r.Intn(4) {
		more = append(more, random(r, 1+r.Intn(5)))
	}
	return b, more
}

// shown returns a value as a string, in which an empty slice is written as nil
// is.
func shown(v any) string {
	return fmt.Sprintf("%+v", v)
}

// text returns concepts as a string, separated by semicolons.
func text(l []api.Concept) string {
	var parts []string
	for _, c := range l {
		s, e := concept.String(names(), c)
		if e != api.OK {
			s = "?" + shown(c)
		}
		parts = append(parts, s)
	}
	return strings.Join(parts, ";")
}

// expect checks a result, and its error; with an error, want is the zero
// value.
func expect(t *testing.T, label string, got any, e api.Errno, want any, wantError api.Errno) {
	t.Helper()
	if shown(got) != shown(want) || e != wantError {
		t.Errorf("%s: %.500s, error %d, not %.500s, error %d", label, shown(got), e, shown(want), wantError)
	}
}
