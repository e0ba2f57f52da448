package task_test

import (
	"fmt"
	"math"
	"slices"
	"strings"
	"testing"

	"isagoge/api"
	"isagoge/interp"
	"isagoge/kb"
	"isagoge/proof"
	"isagoge/search"
	"isagoge/task"
	"isagoge/types"
)

// declared are the lines of three concept names, three roles and two
// individuals.
const declared = "concept A;concept B;concept C;role r;role s;role t;ind a;ind b;"

// parsed returns the knowledge base with the given lines, which are separated
// by semicolons.
func parsed(lines string) api.Base {
	b, e := kb.Parse(strings.ReplaceAll(lines, ";", "\n"))
	if e != api.OK {
		panic(lines)
	}
	return b
}

// based returns the knowledge base over the declared names that has the given
// axioms, which are separated by semicolons.
func based(axioms string) api.Base {
	return parsed(declared + axioms)
}

// over returns the axiom with the given line over the names of b.
func over(b api.Base, line string) api.Axiom {
	c := parsed(text(api.Base{Names: b.Names}) + line)
	switch {
	case len(c.Incls) > 0:
		return api.Axiom{Kind: api.AIncl, Incl: c.Incls[0]}
	case len(c.Roles) > 0:
		return api.Axiom{Kind: api.ARole, Role: c.Roles[0]}
	case len(c.Facts) > 0:
		return api.Axiom{Kind: api.AFact, Fact: c.Facts[0]}
	}
	return api.Axiom{Kind: api.ALink, Link: c.Links[0]}
}

// said returns the axiom with the given line over the declared names.
func said(line string) api.Axiom {
	return over(based(""), line)
}

// listed returns the lines of names: a word, and a prefix with a number.
func listed(word, prefix string, from, to int) string {
	var l strings.Builder
	for k := from; k < to; k++ {
		fmt.Fprintf(&l, "%s %s%d;", word, prefix, k)
	}
	return l.String()
}

func name(n int) api.Concept {
	return api.Concept{Op: api.CName, N: n}
}

func top() api.Concept {
	return api.Concept{Op: api.CTop}
}

func not(c api.Concept) api.Concept {
	return api.Concept{Op: api.CNot, Args: []api.Concept{c}}
}

func all(r int, c api.Concept) api.Concept {
	return api.Concept{Op: api.CAll, N: r, Args: []api.Concept{c}}
}

// nodes returns a concept with a number of nodes, and a depth of at most 10.
func nodes(count int) api.Concept {
	switch count {
	case 1:
		return top()
	case 2:
		return not(top())
	}
	left := (count - 1) / 2
	return api.Concept{Op: api.CAnd, Args: []api.Concept{nodes(left), nodes(count - 1 - left)}}
}

// nested returns a concept of the given depth.
func nested(depth int) api.Concept {
	c := name(0)
	for range depth - 1 {
		c = not(c)
	}
	return c
}

// fact and inclusion return axioms with the given concepts.

func fact(ind int, c api.Concept) api.Axiom {
	return api.Axiom{Kind: api.AFact, Fact: api.Fact{Ind: ind, Concept: c}}
}

func inclusion(sub, super api.Concept) api.Axiom {
	return api.Axiom{Kind: api.AIncl, Incl: api.Incl{Sub: sub, Super: super}}
}

// farNumbers are numbers that are outside of all ranges.
func farNumbers() []int {
	return []int{math.MinInt, -1 << 32, -1000, -1, api.MaxSteps + 1, 1 << 32, math.MaxInt}
}

// wrongBases are knowledge bases that are not valid, each for one reason.
func wrongBases() []api.Base {
	var l []api.Base
	for _, change := range []func(b *api.Base){
		func(b *api.Base) { b.Names.Concepts[1] = "A" },
		func(b *api.Base) { b.Names.Inds[0] = "some" },
		func(b *api.Base) { b.Names.Inds = slices.Repeat(b.Names.Inds, 6) },
		func(b *api.Base) { b.Incls[0].Sub = name(3) },
		func(b *api.Base) { b.Incls[0].Super = all(6, top()) },
		func(b *api.Base) { b.Roles[0].Super = -1 },
		func(b *api.Base) { b.Facts[1].Ind = 2 },
		func(b *api.Base) { b.Facts[1].Concept.Op = 8 },
		func(b *api.Base) { b.Links[0].Role = 3 },
		func(b *api.Base) { b.Links = slices.Repeat(b.Links, 60) },
		func(b *api.Base) { b.Facts[1].Concept = nodes(399) },
	} {
		b := based("A < some r B;role r < s-;a : bot;b : not A;(a, b) : t")
		change(&b)
		l = append(l, b)
	}
	return l
}

// text returns a knowledge base as a string.
func text(b api.Base) string {
	s, _ := kb.String(b)
	return s
}

// shown returns a value as a string, in which an empty slice is written as nil
// is.
func shown(v any) string {
	return fmt.Sprintf("%+v", v)
}

// expect checks a result, and its error; with an error, want is the zero
// value.
func expect(t *testing.T, label string, got any, e api.Errno, want any, wantError api.Errno) {
	t.Helper()
	if shown(got) != shown(want) || e != wantError {
		t.Errorf("%.700s: %.500s, error %d, not %.500s, error %d", label, shown(got), e, shown(want), wantError)
	}
}

// tested returns the test for an axiom of the kind AIncl or AFact.
func tested(b api.Base, x api.Axiom) api.Base {
	if x.Kind == api.AFact {
		b.Facts = slices.Concat(b.Facts, []api.Fact{{Ind: x.Fact.Ind, Concept: not(x.Fact.Concept)}})
		return b
	}
	taken := slices.Concat(b.Names.Concepts, b.Names.Roles, b.Names.Inds)
	k := 0
	for slices.Contains(taken, fmt.Sprint("x", k)) {
		k++
	}
	b.Names.Inds = slices.Concat(b.Names.Inds, []string{fmt.Sprint("x", k)})
	both := []api.Concept{x.Incl.Sub, not(x.Incl.Super)}
	b.Facts = slices.Concat(b.Facts, []api.Fact{{Ind: len(b.Names.Inds) - 1, Concept: api.Concept{Op: api.CAnd, Args: both}}})
	return b
}

// asked returns the verdict of Entails after checking that it is a right one,
// by Right, and without it, and that it is known where it has to be.
func asked(t *testing.T, b api.Base, x api.Axiom, steps int) task.Verdict {
	t.Helper()
	label := fmt.Sprint(text(b), shown(x), ", steps ", steps)
	v, e := task.Entails(b, x, steps)
	right, f := task.Right(b, x, v)
	if e != api.OK || f != api.OK || !right {
		t.Errorf("%.900s: errors %d, %d, right: %v", label, e, f, right)
	}
	want := task.Verdict{Known: v.Known, Holds: v.Known && v.Holds}
	switch {
	case x.Kind == api.ARole || x.Kind == api.ALink:
		if !v.Known && mustBeKnown(b, x, steps) {
			t.Errorf("%.900s: not known", label)
		}
	default:
		test := tested(b, x)
		if a, _ := search.Search(test, steps); a.Known != v.Known {
			t.Errorf("%.900s: known: %v", label, v.Known)
		}
		if v.Known && v.Holds {
			want.Proof = v.Proof
			expect(t, label+": proof", "", proof.Check(test, v.Proof), "", api.OK)
		}
		if v.Known && !v.Holds {
			want.Counter = v.Counter
			isModel, e := interp.Models(test, v.Counter)
			expect(t, label+": counterexample", isModel, e, true, api.OK)
		}
	}
	expect(t, label, v, e, want, api.OK)
	return v
}

// mustBeKnown reports whether searches in b and, for a role inclusion, in its
// test are known.
func mustBeKnown(b api.Base, x api.Axiom, steps int) bool {
	a, _ := search.Search(b, steps)
	if x.Kind == api.ALink {
		return a.Known
	}
	pairs := api.Concept{Op: api.CSome, N: x.Role.Sub, Args: []api.Concept{top()}}
	other, _ := search.Search(tested(b, inclusion(pairs, api.Concept{Op: api.CBot})), steps)
	return a.Known && other.Known
}

// refuting returns a knowledge base that is inconsistent if and only if b
// entails x, whatever its kind: with a new concept name and two new individuals
// that are a counterexample.
func refuting(b api.Base, x api.Axiom) api.Base {
	fresh := len(b.Names.Concepts)
	from := len(b.Names.Inds)
	to := from + 1
	b.Names.Concepts = slices.Concat(b.Names.Concepts, []string{"fresh"})
	b.Names.Inds = slices.Concat(b.Names.Inds, []string{"from", "to"})
	fact := func(ind int, c api.Concept) {
		b.Facts = slices.Concat(b.Facts, []api.Fact{{Ind: ind, Concept: c}})
	}
	switch x.Kind {
	case api.AIncl:
		fact(from, x.Incl.Sub)
		fact(from, not(x.Incl.Super))
	case api.ARole:
		fact(from, all(x.Role.Super, not(name(fresh))))
		fact(to, name(fresh))
		link := api.Link{Role: x.Role.Sub / 2, From: from, To: to}
		if x.Role.Sub%2 == 1 {
			link.From, link.To = to, from
		}
		b.Links = slices.Concat(b.Links, []api.Link{link})
	case api.AFact:
		fact(x.Fact.Ind, not(x.Fact.Concept))
	case api.ALink:
		fact(x.Link.From, all(2*x.Link.Role, not(name(fresh))))
		fact(x.Link.To, name(fresh))
	}
	return b
}

// expectAgreement checks a known verdict with a knowledge base that refutes x,
// and reports whether there is one that can be decided.
func expectAgreement(t *testing.T, b api.Base, x api.Axiom, v task.Verdict) bool {
	t.Helper()
	other := refuting(b, x)
	consistent, e := types.Consistent(other)
	if e != api.OK {
		a, _ := search.Search(other, api.MaxSteps)
		if !a.Known {
			return false
		}
		consistent = a.Consistent
	}
	if v.Holds == consistent {
		t.Errorf("%.900s%+v: holds: %v", text(b), x, v.Holds)
	}
	return true
}

// expectVerdict checks that the verdict is known with a number of steps, and
// what it is, and returns it.
func expectVerdict(t *testing.T, b api.Base, x api.Axiom, steps int, holds bool) task.Verdict {
	t.Helper()
	v := asked(t, b, x, steps)
	if !v.Known || v.Holds != holds {
		t.Errorf("%.700s%+v, steps %d: known: %v, holds: %v", text(b), x, steps, v.Known, v.Holds)
	}
	expectAgreement(t, b, x, v)
	return v
}

// shows reports whether a known verdict is right for a test.
func shows(test api.Base, v task.Verdict) bool {
	if v.Holds {
		return proof.Check(test, v.Proof) == api.OK
	}
	isModel, _ := interp.Models(test, v.Counter)
	return isModel
}
