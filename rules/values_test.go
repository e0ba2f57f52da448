package rules_test

import (
	"math"
	"reflect"
	"slices"
	"strings"

	"isagoge/api"
	"isagoge/kb"
	"isagoge/task"
)

// A sample is an argument for a call.
type sample struct {
	value reflect.Value
	// valid is whether the value is valid over the names of the pool.
	valid bool
}

// A pool has arguments for the parameters of each type.
type pool map[reflect.Type][]sample

func add[T any](p pool, valid bool, values ...T) {
	for _, v := range values {
		t := reflect.TypeFor[T]()
		p[t] = append(p[t], sample{reflect.ValueOf(v), valid})
	}
}

// declared are the lines of the names of the pool.
const declared = "concept A\nconcept B\nconcept C1\nrole r\nrole s_2\nind a\nind b_1\n"

// based returns the knowledge base that has the given lines too.
func based(lines string) api.Base {
	b, e := kb.Parse(declared + lines)
	if e != api.OK {
		panic(lines)
	}
	return b
}

func of(s string) api.Concept {
	return based(s + " < top").Incls[0].Sub
}

const fullText = `A < some r (B and not C1)
(A or top) < all s_2- bot
A < A
role r < s_2-
role r- < r-
role s_2 < r
b_1 : not C1
a : all r- A
b_1 : not C1
(a, b_1) : r
(b_1, b_1) : s_2
(b_1, a) : r
`

// bushy returns a conjunction of leaves: it has 2 * leaves - 1 nodes, and
// about equally many on both sides of each node.
func bushy(leaves int) api.Concept {
	if leaves == 1 {
		return of("A")
	}
	return api.Concept{Op: api.CAnd, Args: []api.Concept{bushy(leaves / 2), bushy(leaves - leaves/2)}}
}

// nested returns a concept of the given depth.
func nested(op, depth int) api.Concept {
	c := api.Concept{Op: api.CTop}
	for range depth - 1 {
		c = api.Concept{Op: op, Args: []api.Concept{c}}
	}
	return c
}

// changed returns the values that each change makes of one that is new each
// time.
func changed[T any](fresh func() T, changes ...func(x *T)) []T {
	var l []T
	for _, change := range changes {
		x := fresh()
		change(&x)
		l = append(l, x)
	}
	return l
}

// usual has arguments that are valid over one list of names, and some that are
// not.
func usual() pool {
	p := pool{}
	addNames(p)
	addConcepts(p)
	addLists(p)
	addBases(p)
	addInterps(p)
	addProofs(p)
	addAnswers(p)
	addAxioms(p)
	add(p, true, math.MinInt, -1, 0, 1, 3, 5, 11, 12, math.MaxInt)
	add(p, true, nil, []int{0}, []int{0, 2}, []int{0, 1, 4, 6, 9, 11}, []int{2, 2}, []int{-1})
	add(p, true, "", "A", "some r- (A or B)", "C", "A B", declared+fullText, "concept A\n!", "A < B\nconcept A", strings.Repeat("A", api.MaxText+1))
	return p
}

func addNames(p pool) {
	fresh := func() api.Names { return based("").Names }
	add(p, true, fresh())
	add(p, false, changed(fresh,
		func(n *api.Names) { n.Concepts[2] = "A" },
		func(n *api.Names) { n.Roles[0] = "" },
		func(n *api.Names) { n.Inds = slices.Repeat(n.Inds, 6) },
	)...)
}

func addConcepts(p pool) {
	add(p, true, of("A"), of("bot"), of("not C1"), of("some s_2- top"), of("all r (A and not some r- B)"), of("not ((A or B) and (A or B))"), nested(api.CSome, 20), bushy(200))
	add(p, false,
		api.Concept{N: 3}, api.Concept{N: -1}, api.Concept{Op: 8}, api.Concept{Op: -1}, api.Concept{Op: api.CNot}, api.Concept{Op: api.CBot, N: 1},
		api.Concept{Op: api.CAll, N: 4, Args: []api.Concept{of("A")}}, api.Concept{Op: api.CNot, Args: []api.Concept{{N: 3}}}, nested(api.CNot, 21), bushy(201))
}

// addLists adds lists of concepts: also one that shares memory within itself,
// and ones with negation normal forms that are too large.
func addLists(p pool) {
	a, inverse := of("A"), of("some r- (A and B)")
	add(p, true, nil, []api.Concept{a}, []api.Concept{of("all r- not (A and B)"), inverse, inverse, of("top")}, []api.Concept{of("not bot"), bushy(200)},
		[]api.Concept{{Op: api.CAll, Args: []api.Concept{bushy(199)}}}, []api.Concept{nested(api.CSome, 20)})
	add(p, false, []api.Concept{{N: 3}}, []api.Concept{a, {Op: 8}, a}, []api.Concept{inverse, nested(api.CNot, 21)}, []api.Concept{bushy(201), bushy(200)})
}

func addBases(p pool) {
	fresh := func() api.Base { return based(fullText) }
	shared := fresh()
	shared.Incls[2] = shared.Incls[0]
	shared.Facts[2].Concept = shared.Incls[0].Super
	add(p, true, fresh(), shared, based(""), based("A < some r B\n"), based("A < B\na : A\na : not B\n"), based(strings.Repeat("(b_1, a) : s_2\n", api.MaxAxioms)))
	add(p, false, changed(fresh,
		func(b *api.Base) { b.Names.Concepts[2] = "A" },
		func(b *api.Base) { b.Names.Inds[0] = "top" },
		func(b *api.Base) { b.Incls[0].Sub = api.Concept{Op: 8} },
		func(b *api.Base) { b.Incls[2].Super = api.Concept{N: 3} },
		func(b *api.Base) { b.Roles[1].Sub = 4 },
		func(b *api.Base) { b.Facts[0].Ind = 2 },
		func(b *api.Base) { b.Facts[1].Concept.Args = nil },
		func(b *api.Base) { b.Links[0].Role = 2 },
		func(b *api.Base) { b.Links[1].From = -1 },
		func(b *api.Base) { b.Links = slices.Repeat(b.Links, 18) },
		func(b *api.Base) { b.Facts[2].Concept = bushy(196) },
	)...)
}

func addInterps(p pool) {
	fresh := func() api.Interp {
		return api.Interp{
			Size:     3,
			Concepts: [][]int{{0, 2}, {1}, nil},
			Roles:    [][][2]int{{{0, 1}, {0, 2}, {1, 2}, {2, 2}}, {{1, 0}, {2, 0}}},
			Inds:     []int{2, 0},
		}
	}
	shared := fresh()
	shared.Concepts[1] = shared.Concepts[0]
	shared.Roles[1] = shared.Roles[0]
	add(p, true, fresh(), shared, api.Interp{Size: 256, Concepts: make([][]int, 3), Roles: make([][][2]int, 2), Inds: []int{255, 255}})
	add(p, false, changed(fresh,
		func(i *api.Interp) { i.Size = 2 },
		func(i *api.Interp) { i.Size = 257 },
		func(i *api.Interp) { i.Concepts = i.Concepts[1:] },
		func(i *api.Interp) { i.Roles = append(i.Roles, nil) },
		func(i *api.Interp) { i.Inds = nil },
		func(i *api.Interp) { i.Concepts[0] = []int{2, 0} },
		func(i *api.Interp) { i.Roles[1] = [][2]int{{0, -1}} },
	)...)
}

// addProofs adds proofs for one of the knowledge bases of the pool: one of them
// shares memory within itself.
func addProofs(p pool) {
	leaf := func(s string) api.Proof { return api.Proof{Concept: of(s)} }
	fresh := func(left, right api.Proof) api.Proof {
		cases := api.Proof{Rule: api.ROr, Concept: of("(not A or B)"), Subs: []api.Proof{left, right}}
		return api.Proof{Rule: api.RIncl, Subs: []api.Proof{cases}}
	}
	shared := fresh(leaf("A"), fresh(leaf("A"), leaf("B")))
	shared.Subs[0].Subs[1].Subs[0].Concept = shared.Subs[0].Concept
	add(p, true, api.Proof{}, leaf("A"), fresh(leaf("A"), leaf("B")), shared, fresh(leaf("A"), leaf("A")), fresh(leaf("bot"), leaf("B")))
}

// addAnswers adds answers and verdicts with the interpretations and the proofs
// of the pool.
func addAnswers(p pool) {
	add(p, true, api.Answer{}, api.Answer{Known: true}, api.Answer{Consistent: true})
	add(p, true, task.Verdict{}, task.Verdict{Known: true}, task.Verdict{Holds: true})
	for _, s := range p[reflect.TypeFor[api.Interp]()] {
		i := s.value.Interface().(api.Interp)
		add(p, true, api.Answer{Known: true, Consistent: true, Model: i})
		add(p, true, task.Verdict{Known: true, Counter: i})
	}
	for _, s := range p[reflect.TypeFor[api.Proof]()] {
		q := s.value.Interface().(api.Proof)
		add(p, true, api.Answer{Known: true, Proof: q})
		add(p, true, task.Verdict{Known: true, Holds: true, Proof: q})
	}
}

func addAxioms(p pool) {
	a, large := of("A"), bushy(200)
	add(p, true,
		api.Axiom{Kind: api.AIncl, Incl: api.Incl{Sub: a, Super: of("some r B")}}, api.Axiom{Kind: api.AIncl, Incl: api.Incl{Sub: large, Super: large}}, api.Axiom{Kind: api.AIncl, Incl: api.Incl{Sub: of("bot"), Super: a}},
		api.Axiom{Kind: api.ARole, Role: api.RoleIncl{Sub: 3, Super: 0}}, api.Axiom{Kind: api.ARole},
		api.Axiom{Kind: api.AFact, Fact: api.Fact{Ind: 1, Concept: of("not C1")}}, api.Axiom{Kind: api.AFact, Fact: api.Fact{Concept: large}},
		api.Axiom{Kind: api.ALink, Link: api.Link{Role: 1, From: 1}}, api.Axiom{Kind: api.ALink})
	add(p, false,
		api.Axiom{Kind: 4}, api.Axiom{Kind: -1}, api.Axiom{Kind: api.AIncl, Incl: api.Incl{Sub: a, Super: bushy(201)}}, api.Axiom{Kind: api.ARole, Role: api.RoleIncl{Sub: 4}},
		api.Axiom{Kind: api.AFact, Fact: api.Fact{Ind: 2, Concept: a}}, api.Axiom{Kind: api.ALink, Link: api.Link{To: -1}}, api.Axiom{Kind: api.ALink, Fact: api.Fact{Ind: 1}}, api.Axiom{Kind: api.AFact, Incl: api.Incl{Super: of("top")}})
}

// hostile has arguments that no call may stumble over.
func hostile() pool {
	p := usual()
	many := 100000
	add(p, false, api.Names{Concepts: make([]string, many)}, api.Names{Inds: []string{strings.Repeat("a", 1<<20)}}, api.Names{Roles: []string{"\xff\x00"}})
	add(p, false, hostileConcepts(many)...)
	add(p, false, hostileConcepts(many), make([]api.Concept, many/100), slices.Repeat([]api.Concept{bushy(200)}, many/1000))
	add(p, false, hostileBases(many)...)
	add(p, false, hostileInterps(many)...)
	add(p, false, hostileProofs(many)...)
	addAnswers(p)
	add(p, false, hostileAxioms(many)...)
	add(p, false, math.MinInt+1, math.MaxInt-1, math.MaxInt/2+1, -math.MaxInt/2)
	add(p, false, []int{math.MaxInt}, []int{math.MinInt}, make([]int, many))
	add(p, false,
		"\x00", "\xff\xfe", strings.Repeat("(", 30000), strings.Repeat("-", 30000), strings.Repeat("<", 30000), strings.Repeat("not ", 7500), strings.Repeat(":\n", 15000), strings.Repeat("x", 1<<22),
		strings.Repeat("(", 15000)+"<"+strings.Repeat(")", 14999), declared+strings.Repeat("A<A\n", 7000), strings.Repeat("concept A\n", 3000))
	return p
}

func hostileConcepts(many int) []api.Concept {
	shared := of("A")
	for range 60 {
		shared = api.Concept{Op: api.CAnd, Args: []api.Concept{shared, shared}}
	}
	return []api.Concept{
		{Op: math.MinInt, N: math.MaxInt}, {N: math.MinInt}, {Op: api.CSome, N: math.MaxInt, Args: make([]api.Concept, 1)}, {Op: api.CAnd, Args: make([]api.Concept, 1)},
		{Op: api.CAnd, Args: make([]api.Concept, many)}, {Args: make([]api.Concept, many)}, nested(api.CNot, 1<<16), nested(api.CAll, 1<<16), bushy(1000), shared,
	}
}

func hostileBases(many int) []api.Base {
	n := based("").Names
	l := []api.Base{
		{Names: api.Names{Concepts: make([]string, many)}},
		{Incls: make([]api.Incl, 1)}, {Roles: make([]api.RoleIncl, 60)}, {Facts: make([]api.Fact, 60)}, {Links: make([]api.Link, 60)},
		{Names: n, Incls: make([]api.Incl, many)}, {Names: n, Roles: make([]api.RoleIncl, many)}, {Names: n, Facts: make([]api.Fact, many)}, {Names: n, Links: make([]api.Link, many)},
		{Names: n, Roles: []api.RoleIncl{{Sub: math.MaxInt, Super: math.MinInt}}},
		{Names: n, Links: []api.Link{{Role: math.MinInt, From: math.MaxInt, To: math.MinInt}}},
		{Names: n, Facts: slices.Repeat([]api.Fact{{Concept: bushy(200)}}, 60)},
	}
	for _, c := range hostileConcepts(many) {
		l = append(l, api.Base{Names: n, Incls: []api.Incl{{Sub: c}}}, api.Base{Names: n, Incls: []api.Incl{{Super: c}}}, api.Base{Names: n, Facts: []api.Fact{{Concept: c}}})
	}
	return l
}

func hostileAxioms(many int) []api.Axiom {
	l := []api.Axiom{
		{Kind: math.MinInt}, {Kind: math.MaxInt}, {Kind: api.ARole, Role: api.RoleIncl{Sub: math.MaxInt, Super: math.MinInt}}, {Kind: api.ALink, Link: api.Link{Role: math.MaxInt, From: math.MinInt, To: math.MaxInt}},
		{Kind: api.AFact, Fact: api.Fact{Ind: math.MaxInt, Concept: api.Concept{Op: api.CTop}}},
	}
	for _, c := range hostileConcepts(many) {
		for kind := range 4 {
			l = append(l, api.Axiom{Kind: kind, Incl: api.Incl{Super: c}}, api.Axiom{Kind: kind, Incl: api.Incl{Sub: c, Super: c}}, api.Axiom{Kind: kind, Fact: api.Fact{Concept: c}})
		}
	}
	return l
}

func hostileInterps(many int) []api.Interp {
	fresh := func() api.Interp {
		return api.Interp{Size: 256, Concepts: make([][]int, 3), Roles: make([][][2]int, 2), Inds: []int{0, 255}}
	}
	return append(changed(fresh,
		func(i *api.Interp) { i.Size = math.MaxInt },
		func(i *api.Interp) { i.Size = math.MinInt },
		func(i *api.Interp) { i.Concepts[2] = make([]int, many) },
		func(i *api.Interp) { i.Roles[0] = make([][2]int, many) },
		func(i *api.Interp) { i.Concepts[0] = []int{math.MinInt, math.MaxInt} },
		func(i *api.Interp) { i.Roles[1] = [][2]int{{math.MinInt, math.MaxInt}} },
		func(i *api.Interp) { i.Inds[1] = math.MaxInt },
		func(i *api.Interp) { i.Concepts = make([][]int, many) },
		func(i *api.Interp) { i.Roles = make([][][2]int, many) },
		func(i *api.Interp) { i.Inds = make([]int, many) },
	), api.Interp{}, api.Interp{Size: 1})
}

func hostileProofs(many int) []api.Proof {
	shared, nested := api.Proof{Rule: api.ROr}, api.Proof{Rule: api.RIncl}
	for range 60 {
		shared.Subs = []api.Proof{shared, shared}
	}
	for range 1<<16 - 1 {
		nested.Subs = []api.Proof{nested}
	}
	l := []api.Proof{
		{Rule: math.MinInt}, {Rule: math.MaxInt}, {X: math.MinInt}, {X: math.MaxInt}, {Rule: api.RAll, Y: math.MaxInt}, {Rule: api.RIncl, N: math.MaxInt}, {Rule: api.RIncl, N: math.MinInt},
		{Rule: api.RIncl, Subs: make([]api.Proof, many)}, nested, shared,
	}
	for _, c := range hostileConcepts(many) {
		for rule := range 6 {
			l = append(l, api.Proof{Rule: rule, Concept: c, Subs: make([]api.Proof, 1)})
		}
	}
	return l
}
