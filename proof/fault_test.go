package proof_test

import (
	"testing"

	"isagoge/api"
	"isagoge/concept"
)

// P7.2: the first fault in preorder: at the root, deep in the proof, and in the
// second of two Subs.
func TestFirstFault(t *testing.T) {
	b := based("A < B;C < B;a : (A or C);a : not B;a : some r B")
	good := func() api.Proof {
		return rOr(0, "(A or C)",
			rIncl(0, 0, rOr(0, "(not A or B)", rClash(0, "A"), rClash(0, "B"))),
			rIncl(0, 1, rOr(0, "(not C or B)", rClash(0, "C"), rClash(0, "not B"))))
	}
	expectProof(t, "the proof", b, good(), []int{0, 1, 2, 3, 4})
	wrong := rClash(0, "C")
	for _, c := range []struct {
		label  string
		change func(p *api.Proof)
		path   []int
	}{
		{"another root", func(p *api.Proof) { p.X = 1 }, []int{}},
		{"no Subs", func(p *api.Proof) { p.Subs = nil }, []int{}},
		{"one Sub less", func(p *api.Proof) { p.Subs = p.Subs[:1] }, []int{}},
		{"one Sub more", func(p *api.Proof) { p.Subs = append(p.Subs, p.Subs[1]) }, []int{}},
		{"one Sub more, and a wrong one", func(p *api.Proof) { p.Subs = append(p.Subs, wrong) }, []int{}},
		{"the first Sub", func(p *api.Proof) { p.Subs[0] = wrong }, []int{0}},
		{"the second Sub", func(p *api.Proof) { p.Subs[1] = rClash(0, "A") }, []int{1}},
		{"both Subs", func(p *api.Proof) { p.Subs[0], p.Subs[1] = wrong, rClash(0, "A") }, []int{0}},
		{"Subs in the other order", func(p *api.Proof) { p.Subs[0], p.Subs[1] = p.Subs[1], p.Subs[0] }, []int{0, 0, 0}},
		{"a leaf", func(p *api.Proof) { p.Subs[0].Subs[0].Subs[0] = wrong }, []int{0, 0, 0}},
		{"a second leaf", func(p *api.Proof) { p.Subs[0].Subs[0].Subs[1] = wrong }, []int{0, 0, 1}},
		{"the last leaf", func(p *api.Proof) { p.Subs[1].Subs[0].Subs[1] = rClash(0, "A") }, []int{1, 0, 1}},
		{"a leaf that is deeper than a later fault", func(p *api.Proof) { p.Subs[0].Subs[0].Subs[1], p.Subs[1] = wrong, wrong }, []int{0, 0, 1}},
		{"a node above a fault", func(p *api.Proof) { p.Subs[1].Subs[0].X, p.Subs[1].Subs[0].Subs[0] = 1, wrong }, []int{1, 0}},
		{"a leaf with a Sub", func(p *api.Proof) { p.Subs[1].Subs[0].Subs[0].Subs = []api.Proof{rClash(0, "C")} }, []int{1, 0, 0}},
		{"a wrong number of Subs above a fault", func(p *api.Proof) { p.Subs[0].Subs = []api.Proof{wrong, wrong} }, []int{0}},
	} {
		p := good()
		c.change(&p)
		expectFault(t, c.label, b, p, c.path...)
	}
}

// P7.1, P7.2: what is added in the first branch of a proof is not there in the
// second one.
func TestBranches(t *testing.T) {
	b := based("A < B;C < bot;a : (A or B);a : some r C;a : all r not C;b : (A and C);b : bot")
	bot := rClash(1, "bot")
	closed := func(x int) api.Proof { return rAll(0, x, "all r not C", rClash(x, "C")) }
	for _, c := range []struct {
		label         string
		first, second api.Proof
		path          []int
	}{
		{"a concept of ROr", rIncl(0, 0, rOr(0, "(not A or B)", rClash(0, "A"), bot)), rIncl(0, 0, rOr(0, "(not A or B)", rClash(0, "A"), bot)), []int{1, 0, 0}},
		{"a concept of RIncl", rIncl(0, 0, rOr(0, "(not A or B)", rClash(0, "A"), bot)), rOr(0, "(not A or B)", bot, bot), []int{1}},
		{"a concept of RAnd", rAnd(1, "(A and C)", bot), rIncl(1, 1, rOr(1, "(not C or bot)", rClash(1, "C"), bot)), []int{1, 0, 0}},
		{"a concept of RAll", rSome(0, "some r C", closed(2)), rSome(0, "some r C", rClash(2, "C")), []int{1, 0}},
		{"a node", rSome(0, "some r C", bot), rIncl(2, 0, bot), []int{1}},
		{"an edge", rSome(0, "some r C", bot), closed(2), []int{1}},
		{"an edge of a node with the same number", rSome(0, "some r C", bot), rSome(0, "some r C", closed(2)), nil},
		{"numbers of nodes", rSome(0, "some r C", rSome(0, "some r C", closed(3))), rSome(0, "some r C", closed(2)), nil},
		{"numbers of nodes", rSome(0, "some r C", rSome(0, "some r C", closed(2))), rSome(0, "some r C", closed(3)), []int{1, 0}},
	} {
		p := rOr(0, "(A or B)", c.first, c.second)
		if c.path == nil {
			expectProof(t, c.label, b, p, []int{2, 3, 4, 5, 6})
			continue
		}
		expectFault(t, c.label, b, p, c.path...)
	}
}

// A wrong is what is no proof for a knowledge base with some axioms, and the path
// to its first fault.
type wrong struct {
	label, axioms string
	p             api.Proof
	path          []int
}

func expectFaults(t *testing.T, list []wrong) {
	t.Helper()
	for _, c := range list {
		b := based(c.axioms)
		expectFault(t, c.label+": "+text(b, c.p), b, c.p, c.path...)
	}
}

// P7.1, P7.2: RClash where one of its conditions is not met.
func TestRClash(t *testing.T) {
	bot := rClash(0, "bot")
	expectFaults(t, []wrong{
		{"no concept", "a : B", rClash(0, "A"), nil},
		{"only the negation", "a : not A", rClash(0, "A"), nil},
		{"only the concept", "a : A", rClash(0, "A"), nil},
		{"only a negation", "a : not A", rClash(0, "not A"), nil},
		{"in the labels of two nodes", "a : A;b : not A", rClash(0, "A"), nil},
		{"in the labels of two nodes", "a : A;b : not A", rClash(1, "A"), nil},
		{"in the label of another node", "a : A;a : not A", rClash(1, "A"), nil},
		{"a concept that is not normal", "a : A;a : not A", rClash(0, "not not A"), nil},
		{"a fact that is not normal", "a : not (A and B);a : (A and B)", rClash(0, "not (A and B)"), nil},
		{"a negation within", "a : some r A;a : some r not A", rClash(0, "some r A"), nil},
		{"another role", "a : some r A;a : all r- not A", rClash(0, "some r A"), nil},
		{"another order", "a : (A and B);a : (not B or not A)", rClash(0, "(A and B)"), nil},
		{"no bot", "b : bot", rClash(0, "bot"), nil},
		{"the negation of bot", "a : top", rClash(0, "bot"), nil},
		{"top without bot", "a : top", rClash(0, "top"), nil},
		{"bot without top", "a : bot", rClash(0, "top"), nil},
		{"bot within", "a : (bot and bot)", rClash(0, "bot"), nil},
		{"bot within", "a : (bot and bot)", rClash(0, "(bot and bot)"), nil},
		{"a Sub", "a : bot", rClash(0, "bot", bot), nil},
		{"two Subs", "a : A;a : not A", rClash(0, "A", rClash(0, "A"), rClash(0, "A")), nil},
		{"a link", "(a, b) : r;a : all r bot", rClash(0, "bot"), nil},
	})
}

// P7.1, P7.2: RAnd where one of its conditions is not met, and what it does not
// add.
func TestRAnd(t *testing.T) {
	bot := rClash(0, "bot")
	expectFaults(t, []wrong{
		{"no concept", "a : bot", rAnd(0, "(A and B)", bot), nil},
		{"at another node", "a : bot;b : (A and B)", rAnd(0, "(A and B)", bot), nil},
		{"another order", "a : bot;a : (B and A)", rAnd(0, "(A and B)", bot), nil},
		{"a disjunction", "a : bot;a : (A or B)", rAnd(0, "(A or B)", bot), nil},
		{"a disjunction instead", "a : bot;a : (A or B)", rAnd(0, "(A and B)", bot), nil},
		{"a name", "a : bot;a : A", rAnd(0, "A", bot), nil},
		{"a negated disjunction", "a : bot;a : not (A or B)", rAnd(0, "not (A or B)", bot), nil},
		{"within", "a : bot;a : (C and (A and B))", rAnd(0, "(A and B)", bot), nil},
		{"no Sub", "a : (A and bot)", rAnd(0, "(A and bot)"), nil},
		{"two Subs", "a : (A and bot)", rAnd(0, "(A and bot)", bot, bot), nil},
		{"adds nothing else", "a : (A and B);a : not C", rAnd(0, "(A and B)", rClash(0, "C")), []int{0}},
		{"adds to X", "b : (A and bot)", rAnd(1, "(A and bot)", bot), []int{0}},
	})
}

// P7.1, P7.2: ROr where one of its conditions is not met, and what it does not
// add.
func TestROr(t *testing.T) {
	bot := rClash(0, "bot")
	expectFaults(t, []wrong{
		{"no concept", "a : bot", rOr(0, "(A or B)", bot, bot), nil},
		{"at another node", "a : bot;b : (A or B)", rOr(0, "(A or B)", bot, bot), nil},
		{"a conjunction", "a : bot;a : (A and B)", rOr(0, "(A and B)", bot, bot), nil},
		{"a conjunction instead", "a : bot;a : (A and B)", rOr(0, "(A or B)", bot, bot), nil},
		{"a negated conjunction", "a : bot;a : not (A and B)", rOr(0, "not (A and B)", bot, bot), nil},
		{"no Subs", "a : (bot or bot)", rOr(0, "(bot or bot)"), nil},
		{"one Sub", "a : (bot or bot)", rOr(0, "(bot or bot)", bot), nil},
		{"three Subs", "a : (bot or bot)", rOr(0, "(bot or bot)", bot, bot, bot), nil},
		{"the first Sub", "a : (A or B);a : not A;a : not B", rOr(0, "(A or B)", rClash(0, "B"), rClash(0, "B")), []int{0}},
		{"the second Sub", "a : (A or B);a : not A;a : not B", rOr(0, "(A or B)", rClash(0, "A"), rClash(0, "A")), []int{1}},
		{"adds to X", "b : (bot or bot)", rOr(1, "(bot or bot)", bot, rClash(1, "bot")), []int{0}},
		{"adds to X", "b : (bot or bot)", rOr(1, "(bot or bot)", rClash(1, "bot"), bot), []int{1}},
	})
}

// P7.1, P7.2: RSome where one of its conditions is not met, and what it does not
// add.
func TestRSome(t *testing.T) {
	bot := rClash(0, "bot")
	expectFaults(t, []wrong{
		{"no concept", "a : bot", rSome(0, "some r A", bot), nil},
		{"at another node", "a : bot;b : some r A", rSome(0, "some r A", bot), nil},
		{"another role", "a : bot;a : some r- A", rSome(0, "some r A", bot), nil},
		{"a role below", "a : bot;a : some r A;role r < s", rSome(0, "some s A", bot), nil},
		{"all", "a : bot;a : all r A", rSome(0, "all r A", bot), nil},
		{"all instead", "a : bot;a : all r A", rSome(0, "some r A", bot), nil},
		{"no Sub", "a : some r bot", rSome(0, "some r bot"), nil},
		{"two Subs", "a : some r bot", rSome(0, "some r bot", rClash(2, "bot"), rClash(2, "bot")), nil},
		{"adds nothing to X", "a : some r bot", rSome(0, "some r bot", bot), []int{0}},
		{"adds nothing to the other node", "a : some r bot", rSome(0, "some r bot", rClash(1, "bot")), []int{0}},
		{"adds one node", "a : some r A;a : bot", rSome(0, "some r A", rIncl(3, 0, bot)), []int{0}},
		{"adds only C", "a : some r A;a : not A", rSome(0, "some r A", rClash(2, "A")), []int{0}},
		{"the next number", "a : some r bot", rSome(0, "some r bot", rSome(0, "some r bot", rClash(4, "bot"))), []int{0, 0}},
		{"the edge from X", "a : some r A;a : all r- bot", rSome(0, "some r A", rAll(0, 2, "all r- bot", rClash(2, "bot"))), []int{0}},
		{"the edge from X", "a : some r all r bot", rSome(0, "some r all r bot", rAll(2, 0, "all r bot", bot)), []int{0}},
		{"no edge from others", "a : some r A;b : all r bot", rSome(0, "some r A", rAll(1, 2, "all r bot", rClash(2, "bot"))), []int{0}},
		{"no edge to others", "a : some r A;a : all r bot", rSome(0, "some r A", rAll(0, 1, "all r bot", rClash(1, "bot"))), []int{0}},
		{"no edge of another role", "a : some r A;a : all s bot", rSome(0, "some r A", rAll(0, 2, "all s bot", rClash(2, "bot"))), []int{0}},
		{"no edge of a role below", "a : some s A;a : all r bot;role r < s", rSome(0, "some s A", rAll(0, 2, "all r bot", rClash(2, "bot"))), []int{0}},
	})
}

// P7.1, P7.2: RAll where one of its conditions is not met, and what it does not
// add.
func TestRAll(t *testing.T) {
	bot := rClash(0, "bot")
	expectFaults(t, []wrong{
		{"no concept", "a : bot;(a, b) : r", rAll(0, 1, "all r A", bot), nil},
		{"at Y", "a : bot;(a, b) : r;b : all r A", rAll(0, 1, "all r A", bot), nil},
		{"some", "a : bot;(a, b) : r;a : some r A", rAll(0, 1, "some r A", bot), nil},
		{"some instead", "a : bot;(a, b) : r;a : some r A", rAll(0, 1, "all r A", bot), nil},
		{"another role of the concept", "a : bot;(a, b) : r;a : all s A", rAll(0, 1, "all r A", bot), nil},
		{"no neighbor", "a : bot;a : all r A", rAll(0, 1, "all r A", bot), nil},
		{"X is no neighbor of itself", "a : bot;a : all r A;(a, b) : r", rAll(0, 0, "all r A", bot), nil},
		{"only a neighbor of the neighbor", "a : bot;a : all r A;(b, a) : r;(b, b) : r", rAll(0, 1, "all r A", bot), nil},
		{"the other direction", "a : bot;a : all r A;(b, a) : r", rAll(0, 1, "all r A", bot), nil},
		{"the inverse", "a : bot;a : all r- A;(a, b) : r", rAll(0, 1, "all r- A", bot), nil},
		{"another role", "a : bot;a : all r A;(a, b) : s", rAll(0, 1, "all r A", bot), nil},
		{"a role above", "a : bot;a : all r A;(a, b) : s;role r < s", rAll(0, 1, "all r A", bot), nil},
		{"a role above an inverse", "a : bot;a : all r A;(b, a) : s;role r < s-", rAll(0, 1, "all r A", bot), nil},
		{"an inverse of a role below", "a : bot;a : all s A;(b, a) : r;role r < s", rAll(0, 1, "all s A", bot), nil},
		{"a role below an inverse", "a : bot;a : all s A;(a, b) : r;role r < s-", rAll(0, 1, "all s A", bot), nil},
		{"two roles that are below a third one", "a : bot;a : all s A;(a, b) : r;role r < t;role s < t", rAll(0, 1, "all s A", bot), nil},
		{"no Sub", "(a, b) : r;a : all r bot", rAll(0, 1, "all r bot"), nil},
		{"two Subs", "(a, b) : r;a : all r bot", rAll(0, 1, "all r bot", rClash(1, "bot"), rClash(1, "bot")), nil},
		{"adds nothing to X", "(a, b) : r;a : all r bot", rAll(0, 1, "all r bot", bot), []int{0}},
		{"adds only C", "(a, b) : r;a : all r A;a : not A;b : not B", rAll(0, 1, "all r A", rClash(1, "B")), []int{0}},
	})
}

// P7.1, P7.2: RIncl where one of its conditions is not met, and what it does not
// add.
func TestRIncl(t *testing.T) {
	bot := rClash(0, "bot")
	expectFaults(t, []wrong{
		{"no inclusions", "a : bot", rIncl(0, 0, bot), nil},
		{"the number of a role inclusion", "A < B;role r < s;a : bot", rIncl(0, 1, bot), nil},
		{"the number of a fact", "A < B;a : bot", rIncl(0, 1, bot), nil},
		{"the next number", "A < B;B < C;a : bot", rIncl(0, 2, bot), nil},
		{"no Sub", "top < bot", rIncl(0, 0), nil},
		{"two Subs", "A < B;a : bot", rIncl(0, 0, bot, bot), nil},
		{"adds to X", "A < B", rIncl(1, 0, rOr(0, "(not A or B)", rClash(0, "A"), rClash(0, "B"))), []int{0}},
		{"adds inclusion N", "A < B;C < A", rIncl(0, 1, rOr(0, "(not A or B)", rClash(0, "A"), rClash(0, "B"))), []int{0}},
		{"adds a normal form", "not A < B", rIncl(0, 0, rOr(0, "(not not A or B)", rClash(0, "A"), rClash(0, "B"))), []int{0}},
		{"adds nothing else", "A < B;a : A", rIncl(0, 0, rClash(0, "B")), []int{0}},
		{"adds nothing else", "A < B;a : not B", rIncl(0, 0, rClash(0, "not A")), []int{0}},
	})
}

// uses returns, for each rule, a knowledge base and a proof that applies it at
// the root to nodes other than 0.
func uses() []sample {
	bot := rClash(1, "bot")
	rest := ";A < B;B < C;b : bot;a : bot;(a, b) : r"
	return []sample{
		api.RClash: {b: based("b : A;b : not A" + rest), p: rClash(1, "A")},
		api.RAnd:   {b: based("b : (A and B)" + rest), p: rAnd(1, "(A and B)", bot)},
		api.ROr:    {b: based("b : (A or B)" + rest), p: rOr(1, "(A or B)", bot, bot)},
		api.RSome:  {b: based("b : some r B" + rest), p: rSome(1, "some r B", bot)},
		api.RAll:   {b: based("b : all r B;(b, b) : r" + rest), p: rAll(1, 1, "all r B", bot)},
		api.RIncl:  {b: based(rest), p: rIncl(1, 1, bot)},
	}
}

// P7.1, P7.2: X is a node, Y is one for RAll, and N is the number of an
// inclusion for RIncl; other fields are zero values.
func TestFields(t *testing.T) {
	for rule, s := range uses() {
		label := "rule " + shown(rule)
		count := len(s.b.Incls) + len(s.b.Facts) + len(s.b.Links)
		used := []int{2, 3, 4, 5, 6, 7}[:count-2]
		if rule == api.RIncl {
			used = []int{1, 2, 3, 4}
		}
		expectProof(t, label, s.b, s.p, used)
		for _, x := range append(farNumbers(), 2, 3, 199, 200) {
			expectFault(t, label+": another X", s.b, changed(s.p, func(p *api.Proof) { p.X = x }))
			expectFault(t, label+": another Y", s.b, changed(s.p, func(p *api.Proof) { p.Y = x }))
			expectFault(t, label+": another N", s.b, changed(s.p, func(p *api.Proof) { p.N = x }))
		}
		if rule != api.RAll {
			expectFault(t, label+": Y is 1", s.b, changed(s.p, func(p *api.Proof) { p.Y = 1 }))
		}
		if rule != api.RIncl {
			expectFault(t, label+": N is 1", s.b, changed(s.p, func(p *api.Proof) { p.N = 1 }))
		}
		for k := range 6 {
			if k != rule {
				expectFault(t, label+": another rule", s.b, changed(s.p, func(p *api.Proof) { p.Rule = k }))
			}
		}
		for _, k := range append(farNumbers(), 6, 7) {
			expectFault(t, label+": no rule", s.b, changed(s.p, func(p *api.Proof) { p.Rule = k }))
		}
	}
}

// P7.1, P7.2: concepts that are in no label, valid or not.
func TestConcepts(t *testing.T) {
	wrong := []api.Concept{
		{}, name(1), name(3), name(-1), top(), {Op: api.CTop, N: 1}, {Op: api.CNot}, {Op: 8}, {Op: -1}, {Op: api.CBot, N: 1}, not(top()),
		{Op: api.CBot, Args: []api.Concept{top()}}, and(name(0), name(3)), {Op: api.CAnd, Args: []api.Concept{name(0)}}, {Op: api.CAnd}, {Op: api.COr}, {Op: api.CSome}, {Op: api.CAll},
		{Args: []api.Concept{{}}}, or(name(0), name(0)), some(6, name(1)), some(1, name(1)), all(-1, name(1)), {Op: api.CAll, N: 0, Args: make([]api.Concept, 2)},
	}
	for rule, s := range uses() {
		for _, c := range wrong {
			if rule == api.RIncl && concept.Same(c, api.Concept{}) || rule == api.RClash && concept.Same(c, name(0)) {
				continue
			}
			expectFault(t, "rule "+shown(rule)+" of "+shown(c), s.b, changed(s.p, func(p *api.Proof) { p.Concept = c }))
		}
	}
}
