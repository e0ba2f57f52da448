package concept_test

import (
	"math/rand"
	"strings"
	"testing"

	"isagoge/api"
	"isagoge/concept"
)

// names has three concept names, two roles and two individuals.
func names() api.Names {
	return api.Names{Concepts: []string{"A", "B", "C1"}, Roles: []string{"r", "s_2"}, Inds: []string{"a", "b"}}
}

// wrong are names that are not valid.
func wrong() api.Names {
	return api.Names{Concepts: []string{"A", "B", "A"}, Roles: []string{"r", "s_2"}}
}

func name(n int) api.Concept {
	return api.Concept{Op: api.CName, N: n}
}

func top() api.Concept {
	return api.Concept{Op: api.CTop}
}

func bot() api.Concept {
	return api.Concept{Op: api.CBot}
}

func not(c api.Concept) api.Concept {
	return api.Concept{Op: api.CNot, Args: []api.Concept{c}}
}

func and(c, d api.Concept) api.Concept {
	return api.Concept{Op: api.CAnd, Args: []api.Concept{c, d}}
}

func or(c, d api.Concept) api.Concept {
	return api.Concept{Op: api.COr, Args: []api.Concept{c, d}}
}

func some(r int, c api.Concept) api.Concept {
	return api.Concept{Op: api.CSome, N: r, Args: []api.Concept{c}}
}

func all(r int, c api.Concept) api.Concept {
	return api.Concept{Op: api.CAll, N: r, Args: []api.Concept{c}}
}

// A refusal is a pair of arguments with the error that they cause.
type refusal struct {
	n    api.Names
	c    api.Concept
	want api.Errno
}

// refused has arguments that every function of a concept refuses.
func refused() []refusal {
	return []refusal{
		{wrong(), name(9), api.ErrBase},
		{wrong(), some(0, name(0)), api.ErrBase},
		{names(), name(3), api.ErrConcept},
		{names(), name(-1), api.ErrConcept},
		{names(), and(top(), not(name(3))), api.ErrConcept},
		{names(), some(4, top()), api.ErrConcept},
		{names(), some(0, all(4, name(0))), api.ErrConcept},
		{names(), chain(21, someR, name(0)), api.ErrConcept},
		{names(), chain(22, not, top()), api.ErrConcept},
		{names(), bushy(201, name(0)), api.ErrConcept},
		{names(), api.Concept{Op: 8}, api.ErrConcept},
		{names(), api.Concept{Op: api.CNot}, api.ErrConcept},
		{names(), api.Concept{Op: api.CTop, N: 1}, api.ErrConcept},
	}
}

// equal compares trees without the help of the package.
func equal(c, d api.Concept) bool {
	if c.Op != d.Op || c.N != d.N || len(c.Args) != len(d.Args) {
		return false
	}
	for i := range c.Args {
		if !equal(c.Args[i], d.Args[i]) {
			return false
		}
	}
	return true
}

func equalLists(l, m []api.Concept) bool {
	return equal(api.Concept{Args: l}, api.Concept{Args: m})
}

// cloned returns a tree that shares no memory with c.
func cloned(c api.Concept) api.Concept {
	d := api.Concept{Op: c.Op, N: c.N}
	for _, arg := range c.Args {
		d.Args = append(d.Args, cloned(arg))
	}
	return d
}

// chain returns a tree of the given depth: c below as many nodes as needed.
func chain(depth int, above func(api.Concept) api.Concept, c api.Concept) api.Concept {
	for range depth - 1 {
		c = above(c)
	}
	return c
}

func someR(c api.Concept) api.Concept {
	return some(0, c)
}

// bushy returns a conjunction of leaves, with about equally many on both
// sides of each node.
func bushy(leaves int, leaf api.Concept) api.Concept {
	if leaves == 1 {
		return cloned(leaf)
	}
	return and(bushy(leaves/2, leaf), bushy(leaves-leaves/2, leaf))
}

// random returns a concept over names of at most the given depth.
func random(r *rand.Rand, depth int) api.Concept {
	op := r.Intn(8)
	if depth == 1 {
		op = r.Intn(3)
	}
	switch op {
	case api.CName:
		return name(r.Intn(3))
	case api.CTop, api.CBot:
		return api.Concept{Op: op}
	case api.CNot:
		return not(random(r, depth-1))
	case api.CAnd:
		return and(random(r, depth-1), random(r, depth-1))
	case api.COr:
		return or(random(r, depth-1), random(r, depth-1))
	case api.CSome:
		return some(r.Intn(4), random(r, depth-1))
	}
	return all(r.Intn(4), random(r, depth-1))
}

// someConcepts returns random concepts, the same in every run.
func someConcepts(count, depth int) []api.Concept {
	r := rand.New(rand.NewSource(1))
	var l []api.Concept
	for range count {
		l = append(l, random(r, depth))
	}
	return l
}

// shown returns a tree as a string, without the help of the package.
func shown(c api.Concept) string {
	var b strings.Builder
	b.WriteString("NTFnaoSA"[c.Op&7 : c.Op&7+1])
	if c.Op == api.CName || c.Op >= api.CSome {
		b.WriteString(string(rune('0' + c.N)))
	}
	for _, arg := range c.Args {
		b.WriteString("(" + shown(arg) + ")")
	}
	return b.String()
}

// parsed returns the concept of a string over names.
func parsed(t *testing.T, s string) api.Concept {
	t.Helper()
	c, e := concept.Parse(names(), s)
	if e != api.OK {
		t.Fatalf("Parse of %q: error %d", s, e)
	}
	return c
}

// expect checks a concept that a call returned, and its error; with an error,
// want is the zero value.
func expect(t *testing.T, label string, got api.Concept, e api.Errno, want api.Concept, wantError api.Errno) {
	t.Helper()
	if e != wantError {
		t.Errorf("%s: error %d, not %d", label, e, wantError)
		return
	}
	if !equal(got, want) {
		t.Errorf("%s: %+v, not %+v", label, got, want)
	}
}
