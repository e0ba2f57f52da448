package kb_test

import (
	"fmt"
	"math/rand"
	"slices"
	"strconv"
	"strings"
	"testing"

	"isagoge/api"
	"isagoge/concept"
)

// names has three concept names, two roles and two individuals.
func names() api.Names {
	return api.Names{Concepts: []string{"A", "B", "C1"}, Roles: []string{"r", "s_2"}, Inds: []string{"a", "b_1"}}
}

// of returns the concept of a string over names.
func of(s string) api.Concept {
	return over(names(), s)
}

func over(n api.Names, s string) api.Concept {
	c, e := concept.Parse(n, s)
	if e != api.OK {
		panic(s)
	}
	return c
}

func incl(sub, super string) api.Incl {
	return api.Incl{Sub: of(sub), Super: of(super)}
}

func roleIncl(sub, super int) api.RoleIncl {
	return api.RoleIncl{Sub: sub, Super: super}
}

func fact(ind int, c string) api.Fact {
	return api.Fact{Ind: ind, Concept: of(c)}
}

func link(role, from, to int) api.Link {
	return api.Link{Role: role, From: from, To: to}
}

// full has three axioms of each kind.
func full() api.Base {
	return api.Base{
		Names: names(),
		Incls: []api.Incl{incl("A", "some r (B and not C1)"), incl("(A or top)", "all s_2- bot"), incl("A", "A")},
		Roles: []api.RoleIncl{roleIncl(0, 3), roleIncl(1, 1), roleIncl(2, 0)},
		Facts: []api.Fact{fact(1, "not C1"), fact(0, "all r- A"), fact(1, "not C1")},
		Links: []api.Link{link(0, 0, 1), link(1, 1, 1), link(0, 1, 0)},
	}
}

// fullText is the string of full.
const fullText = `concept A
concept B
concept C1
role r
role s_2
ind a
ind b_1
A < some r (B and not C1)
(A or top) < all s_2- bot
A < A
role r < s_2-
role r- < r-
role s_2 < r
b_1 : not C1
a : all r- A
b_1 : not C1
(a, b_1) : r
(b_1, b_1) : s_2
(b_1, a) : r
`

// fullLines are the lines of the axioms of full.
func fullLines() []string {
	return strings.Split(strings.TrimSpace(fullText), "\n")[7:]
}

// wrong are knowledge bases that are not valid, each for one reason.
func wrong() []api.Base {
	var l []api.Base
	for _, change := range []func(b *api.Base){
		func(b *api.Base) { b.Names.Concepts[2] = "A" },
		func(b *api.Base) { b.Names.Inds[0] = "top" },
		func(b *api.Base) { b.Names.Roles = append(b.Names.Roles, "r-") },
		func(b *api.Base) { b.Incls[0].Sub = api.Concept{Op: 8} },
		func(b *api.Base) { b.Incls[2].Super = api.Concept{N: 3} },
		func(b *api.Base) { b.Roles[1].Sub = 4 },
		func(b *api.Base) { b.Roles[2].Super = -1 },
		func(b *api.Base) { b.Facts[0].Ind = 2 },
		func(b *api.Base) { b.Facts[1].Concept.Args = nil },
		func(b *api.Base) { b.Links[0].Role = 2 },
		func(b *api.Base) { b.Links[1].From = -1 },
		func(b *api.Base) { b.Links[2].To = 2 },
		func(b *api.Base) { b.Links = slices.Repeat(b.Links, 18) },
		func(b *api.Base) { b.Facts[2].Concept = bushy(196) },
	} {
		b := full()
		change(&b)
		l = append(l, b)
	}
	return l
}

// bushy returns a conjunction of leaves: it has 2 * leaves - 1 nodes, and
// about equally many on both sides of each node.
func bushy(leaves int) api.Concept {
	if leaves == 1 {
		return of("A")
	}
	return api.Concept{Op: api.CAnd, Args: []api.Concept{bushy(leaves / 2), bushy(leaves - leaves/2)}}
}

// nested returns a concept of the given depth.
func nested(depth int) api.Concept {
	c := of("top")
	for range depth - 1 {
		c = api.Concept{Op: api.CSome, N: 1, Args: []api.Concept{c}}
	}
	return c
}

// listed returns different names.
func listed(prefix string, count int) []string {
	var l []string
	for i := range count {
		l = append(l, prefix+strconv.Itoa(i))
	}
	return l
}

// shown returns a value as a string, in which an empty slice is written as nil
// is.
func shown(v any) string {
	return fmt.Sprintf("%+v", v)
}

// expect checks a knowledge base that a call returned, and its error; with an
// error, want is the zero value.
func expect(t *testing.T, label string, got api.Base, e api.Errno, want api.Base, wantError api.Errno) {
	t.Helper()
	if e != wantError {
		t.Errorf("%.60s: error %d, not %d", label, e, wantError)
		return
	}
	if shown(got) != shown(want) {
		t.Errorf("%.60s: %s, not %s", label, shown(got), shown(want))
	}
}

// someBases returns random knowledge bases, the same in every run.
func someBases(count int) []api.Base {
	r := rand.New(rand.NewSource(1))
	var l []api.Base
	for range count {
		l = append(l, random(r))
	}
	return l
}

// random returns a knowledge base with at most 48 axioms, whose concepts have
// at most 11 nodes each, and at most 396 together.
func random(r *rand.Rand) api.Base {
	n := api.Names{Concepts: listed("C_", r.Intn(17)), Roles: listed("r", r.Intn(7)), Inds: listed("iAb", r.Intn(11))}
	c := func() api.Concept { return over(n, randomText(r, n, 3)) }
	b := api.Base{Names: n}
	for range r.Intn(13) {
		b.Incls = append(b.Incls, api.Incl{Sub: c(), Super: c()})
	}
	if k := len(n.Roles); k > 0 {
		for range r.Intn(13) {
			b.Roles = append(b.Roles, roleIncl(r.Intn(2*k), r.Intn(2*k)))
		}
	}
	if k := len(n.Inds); k > 0 {
		for range r.Intn(13) {
			b.Facts = append(b.Facts, api.Fact{Ind: r.Intn(k), Concept: c()})
		}
		for range min(r.Intn(13), 100*len(n.Roles)) {
			b.Links = append(b.Links, link(r.Intn(len(n.Roles)), r.Intn(k), r.Intn(k)))
		}
	}
	return b
}

// randomText returns the string of a concept of at most the given depth.
func randomText(r *rand.Rand, n api.Names, depth int) string {
	pick := func(l []string) string { return l[r.Intn(len(l))] }
	inner := func() string { return randomText(r, n, depth-1) }
	role := func() string { return pick(n.Roles) + pick([]string{" ", "- "}) }
	leaf := "top"
	if len(n.Concepts) > 0 {
		leaf = pick(n.Concepts)
	}
	if depth == 1 || len(n.Roles) == 0 {
		return pick([]string{leaf, leaf, "top", "not " + leaf, "bot"})
	}
	switch r.Intn(6) {
	case 0:
		return "not " + inner()
	case 1:
		return "(" + inner() + " and " + inner() + ")"
	case 2:
		return "(" + inner() + " or " + inner() + ")"
	case 3:
		return "some " + role() + inner()
	case 4:
		return "all " + role() + inner()
	}
	return leaf
}
