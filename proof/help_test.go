package proof_test

import (
	"fmt"
	"math"
	"slices"
	"strings"
	"testing"

	"isagoge/api"
	"isagoge/concept"
	"isagoge/kb"
	"isagoge/proof"
)

// declared are the lines of three concept names, three roles and two
// individuals.
const declared = "concept A\nconcept B\nconcept C\nrole r\nrole s\nrole t\nind a\nind b\n"

// parsed returns the knowledge base with the given lines, which are separated
// by semicolons.
func parsed(lines string) api.Base {
	b, e := kb.Parse(strings.ReplaceAll(lines, ";", "\n"))
	if e != api.OK {
		panic(lines)
	}
	return b
}

// based returns the knowledge base over the declared names that has the given
// axioms, which are separated by semicolons.
func based(axioms string) api.Base {
	return parsed(declared + axioms)
}

func names() api.Names {
	return based("").Names
}

// of returns the concept of a string over names.
func of(s string) api.Concept {
	c, e := concept.Parse(names(), s)
	if e != api.OK {
		panic(s)
	}
	return c
}

func name(n int) api.Concept {
	return api.Concept{Op: api.CName, N: n}
}

func top() api.Concept {
	return api.Concept{Op: api.CTop}
}

func not(c api.Concept) api.Concept {
	return api.Concept{Op: api.CNot, Args: []api.Concept{c}}
}

func and(c, d api.Concept) api.Concept {
	return api.Concept{Op: api.CAnd, Args: []api.Concept{c, d}}
}

func or(c, d api.Concept) api.Concept {
	return api.Concept{Op: api.COr, Args: []api.Concept{c, d}}
}

func some(r int, c api.Concept) api.Concept {
	return api.Concept{Op: api.CSome, N: r, Args: []api.Concept{c}}
}

func all(r int, c api.Concept) api.Concept {
	return api.Concept{Op: api.CAll, N: r, Args: []api.Concept{c}}
}

// bushy returns leaves that are joined in pairs: it has 2 * leaves - 1 nodes,
// and about equally many on both sides of each node.
func bushy(join func(c, d api.Concept) api.Concept, leaves int, leaf api.Concept) api.Concept {
	if leaves == 1 {
		return leaf
	}
	return join(bushy(join, leaves/2, leaf), bushy(join, leaves-leaves/2, leaf))
}

// The nodes of proofs, by their rules.

func rClash(x int, c string, subs ...api.Proof) api.Proof {
	return api.Proof{Rule: api.RClash, X: x, Concept: of(c), Subs: subs}
}

func rAnd(x int, c string, subs ...api.Proof) api.Proof {
	return api.Proof{Rule: api.RAnd, X: x, Concept: of(c), Subs: subs}
}

func rOr(x int, c string, subs ...api.Proof) api.Proof {
	return api.Proof{Rule: api.ROr, X: x, Concept: of(c), Subs: subs}
}

func rSome(x int, c string, subs ...api.Proof) api.Proof {
	return api.Proof{Rule: api.RSome, X: x, Concept: of(c), Subs: subs}
}

func rAll(x, y int, c string, subs ...api.Proof) api.Proof {
	return api.Proof{Rule: api.RAll, X: x, Y: y, Concept: of(c), Subs: subs}
}

func rIncl(x, n int, subs ...api.Proof) api.Proof {
	return api.Proof{Rule: api.RIncl, X: x, N: n, Subs: subs}
}

// changed returns a copy of p after a change.
func changed(p api.Proof, change func(p *api.Proof)) api.Proof {
	change(&p)
	return p
}

// farNumbers are numbers that are outside of all ranges.
func farNumbers() []int {
	return []int{math.MinInt, -1 << 32, -1000, -1, 1000, 1 << 32, math.MaxInt}
}

// wrongBases are knowledge bases that are not valid, each for one reason.
func wrongBases() []api.Base {
	var l []api.Base
	for _, change := range []func(b *api.Base){
		func(b *api.Base) { b.Names.Concepts[1] = "A" },
		func(b *api.Base) { b.Names.Inds[0] = "some" },
		func(b *api.Base) { b.Incls[0].Sub = name(3) },
		func(b *api.Base) { b.Incls[0].Super = some(6, top()) },
		func(b *api.Base) { b.Roles[0].Super = -1 },
		func(b *api.Base) { b.Facts[1].Ind = 2 },
		func(b *api.Base) { b.Facts[1].Concept.Op = 8 },
		func(b *api.Base) { b.Links[0].Role = 3 },
		func(b *api.Base) { b.Links = slices.Repeat(b.Links, 60) },
		func(b *api.Base) { b.Facts[1].Concept = bushy(and, 200, top()) },
	} {
		b := based("A < some r B;role r < s-;a : bot;b : not A;(a, b) : t")
		change(&b)
		l = append(l, b)
	}
	return l
}

// text returns a knowledge base and a proof as a string.
func text(b api.Base, p api.Proof) string {
	s, _ := kb.String(b)
	return s + fmt.Sprintf("%+v", p)
}

// shown returns a value as a string, in which an empty slice is written as nil
// is.
func shown(v any) string {
	return fmt.Sprintf("%+v", v)
}

// expect checks a result, and its error; with an error, want is the zero
// value.
func expect(t *testing.T, label string, got any, e api.Errno, want any, wantError api.Errno) {
	t.Helper()
	if shown(got) != shown(want) || e != wantError {
		t.Errorf("%.700s: %.500s, error %d, not %.500s, error %d", label, shown(got), e, shown(want), wantError)
	}
}

// expectProof checks that p is a proof for b that uses some axioms.
func expectProof(t *testing.T, label string, b api.Base, p api.Proof, uses []int) {
	t.Helper()
	expect(t, label+": Check", nil, proof.Check(b, p), nil, api.OK)
	path, found, e := proof.Fault(b, p)
	expect(t, label+": Fault", path, e, []int(nil), api.OK)
	expect(t, label+": Fault", found, e, false, api.OK)
	got, e := proof.Uses(b, p)
	expect(t, label+": Uses", got, e, uses, api.OK)
}

// expectFault checks that the first fault of p, for b, is at the end of a path.
func expectFault(t *testing.T, label string, b api.Base, p api.Proof, path ...int) {
	t.Helper()
	expect(t, label+": Check", nil, proof.Check(b, p), nil, api.ErrProof)
	got, found, e := proof.Fault(b, p)
	expect(t, label+": Fault", got, e, path, api.OK)
	expect(t, label+": Fault", found, e, true, api.OK)
	used, e := proof.Uses(b, p)
	expect(t, label+": Uses", used, e, []int(nil), api.ErrProof)
}

// expectError checks that all functions with a knowledge base return an error.
func expectError(t *testing.T, label string, b api.Base, p api.Proof, want api.Errno) {
	t.Helper()
	expect(t, label+": Check", nil, proof.Check(b, p), nil, want)
	path, found, e := proof.Fault(b, p)
	expect(t, label+": Fault", path, e, []int(nil), want)
	expect(t, label+": Fault", found, e, false, want)
	used, e := proof.Uses(b, p)
	expect(t, label+": Uses", used, e, []int(nil), want)
}
