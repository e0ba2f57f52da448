package search_test

import (
	"fmt"
	"math"
	"slices"
	"strings"
	"testing"

	"isagoge/api"
	"isagoge/concept"
	"isagoge/interp"
	"isagoge/kb"
	"isagoge/proof"
	"isagoge/search"
	"isagoge/types"
)

// declared are the lines of three concept names, three roles and two
// individuals.
const declared = "concept A\nconcept B\nconcept C\nrole r\nrole s\nrole t\nind a\nind b\n"

// parsed returns the knowledge base with the given lines, which are separated
// by semicolons.
func parsed(lines string) api.Base {
	b, e := kb.Parse(strings.ReplaceAll(lines, ";", "\n"))
	if e != api.OK {
		panic(lines)
	}
	return b
}

// based returns the knowledge base over the declared names that has the given
// axioms, which are separated by semicolons.
func based(axioms string) api.Base {
	return parsed(declared + axioms)
}

func names() api.Names {
	return based("").Names
}

// of returns the concept of a string over names.
func of(s string) api.Concept {
	c, e := concept.Parse(names(), s)
	if e != api.OK {
		panic(s)
	}
	return c
}

func name(n int) api.Concept {
	return api.Concept{Op: api.CName, N: n}
}

func top() api.Concept {
	return api.Concept{Op: api.CTop}
}

func not(c api.Concept) api.Concept {
	return api.Concept{Op: api.CNot, Args: []api.Concept{c}}
}

func and(c, d api.Concept) api.Concept {
	return api.Concept{Op: api.CAnd, Args: []api.Concept{c, d}}
}

func or(c, d api.Concept) api.Concept {
	return api.Concept{Op: api.COr, Args: []api.Concept{c, d}}
}

func some(r int, c api.Concept) api.Concept {
	return api.Concept{Op: api.CSome, N: r, Args: []api.Concept{c}}
}

func all(r int, c api.Concept) api.Concept {
	return api.Concept{Op: api.CAll, N: r, Args: []api.Concept{c}}
}

// bushy returns leaves that are joined in pairs: it has 2 * leaves - 1 nodes,
// and about equally many on both sides of each node.
func bushy(join func(c, d api.Concept) api.Concept, leaves int, leaf api.Concept) api.Concept {
	if leaves == 1 {
		return leaf
	}
	return join(bushy(join, leaves/2, leaf), bushy(join, leaves-leaves/2, leaf))
}

// The nodes of proofs, by their rules.

func rClash(x int, c string, subs ...api.Proof) api.Proof {
	return api.Proof{Rule: api.RClash, X: x, Concept: of(c), Subs: subs}
}

func rAnd(x int, c string, subs ...api.Proof) api.Proof {
	return api.Proof{Rule: api.RAnd, X: x, Concept: of(c), Subs: subs}
}

func rOr(x int, c string, subs ...api.Proof) api.Proof {
	return api.Proof{Rule: api.ROr, X: x, Concept: of(c), Subs: subs}
}

func rSome(x int, c string, subs ...api.Proof) api.Proof {
	return api.Proof{Rule: api.RSome, X: x, Concept: of(c), Subs: subs}
}

func rAll(x, y int, c string, subs ...api.Proof) api.Proof {
	return api.Proof{Rule: api.RAll, X: x, Y: y, Concept: of(c), Subs: subs}
}

func rIncl(x, n int, subs ...api.Proof) api.Proof {
	return api.Proof{Rule: api.RIncl, X: x, N: n, Subs: subs}
}

// farNumbers are numbers that are outside of all ranges.
func farNumbers() []int {
	return []int{math.MinInt, -1 << 32, -1000, -1, api.MaxSteps + 1, 1 << 32, math.MaxInt}
}

// wrongBases are knowledge bases that are not valid, each for one reason.
func wrongBases() []api.Base {
	var l []api.Base
	for _, change := range []func(b *api.Base){
		func(b *api.Base) { b.Names.Concepts[1] = "A" },
		func(b *api.Base) { b.Names.Inds[0] = "some" },
		func(b *api.Base) { b.Incls[0].Sub = name(3) },
		func(b *api.Base) { b.Incls[0].Super = some(6, top()) },
		func(b *api.Base) { b.Roles[0].Super = -1 },
		func(b *api.Base) { b.Facts[1].Ind = 2 },
		func(b *api.Base) { b.Facts[1].Concept.Op = 8 },
		func(b *api.Base) { b.Links[0].Role = 3 },
		func(b *api.Base) { b.Links = slices.Repeat(b.Links, 60) },
		func(b *api.Base) { b.Facts[1].Concept = bushy(and, 200, top()) },
	} {
		b := based("A < some r B;role r < s-;a : bot;b : not A;(a, b) : t")
		change(&b)
		l = append(l, b)
	}
	return l
}

// text returns a knowledge base as a string.
func text(b api.Base) string {
	s, _ := kb.String(b)
	return s
}

// shown returns a value as a string, in which an empty slice is written as nil
// is.
func shown(v any) string {
	return fmt.Sprintf("%+v", v)
}

// expect checks a result, and its error; with an error, want is the zero
// value.
func expect(t *testing.T, label string, got any, e api.Errno, want any, wantError api.Errno) {
	t.Helper()
	if shown(got) != shown(want) || e != wantError {
		t.Errorf("%.700s: %.500s, error %d, not %.500s, error %d", label, shown(got), e, shown(want), wantError)
	}
}

// asked returns the answer of Search after checking that it is a right one: by
// Right, and without it.
func asked(t *testing.T, b api.Base, steps int) api.Answer {
	t.Helper()
	a, e := search.Search(b, steps)
	right, f := search.Right(b, a)
	if e != api.OK || f != api.OK || !right {
		t.Errorf("%.700s, %d steps: errors %d, %d, right: %v", text(b), steps, e, f, right)
	}
	zero := api.Answer{Known: a.Known, Consistent: a.Consistent}
	switch {
	case !a.Known:
		zero.Consistent = false
	case a.Consistent:
		zero.Model = a.Model
		if isModel, e := interp.Models(b, a.Model); !isModel || e != api.OK {
			t.Errorf("%.700s, %d steps: no model: %.500s", text(b), steps, shown(a.Model))
		}
	default:
		zero.Proof = a.Proof
		if e := proof.Check(b, a.Proof); e != api.OK {
			t.Errorf("%.700s, %d steps: no proof: %.500s", text(b), steps, shown(a.Proof))
		}
	}
	if shown(a) != shown(zero) {
		t.Errorf("%.700s, %d steps: %.700s", text(b), steps, shown(a))
	}
	if verdict, e := types.Consistent(b); e == api.OK && a.Known && a.Consistent != verdict {
		t.Errorf("%.700s, %d steps: consistent: %v", text(b), steps, a.Consistent)
	}
	return a
}

// expectVerdict checks that the answer with a number of steps is known, and
// whether it is consistent, and returns it.
func expectVerdict(t *testing.T, b api.Base, steps int, consistent bool) api.Answer {
	t.Helper()
	a := asked(t, b, steps)
	if !a.Known || a.Consistent != consistent {
		t.Errorf("%.700s, %d steps: known: %v, consistent: %v", text(b), steps, a.Known, a.Consistent)
	}
	return a
}
