package proof_test

import (
	"testing"

	"isagoge/api"
)

// A sample is a proof for a knowledge base, with the axioms that it uses.
type sample struct {
	b    api.Base
	p    api.Proof
	uses []int
}

// samples are proofs with all rules.
func samples() []sample {
	family := "concept Human;concept Robot;role parent;role mother;ind eve;ind ann;Human < some parent Human;Human < not Robot;role mother < parent;eve : Human;(eve, ann) : mother;ann : all parent- Robot"
	return []sample{
		// The examples of the chapter and of DOC.md, whose names here are A and B.
		{based("A < B;a : A;a : not B"), rIncl(0, 0, rOr(0, "(not A or B)", rClash(0, "A"), rClash(0, "B"))), []int{0, 1, 2}},
		{parsed(family), rIncl(0, 1, rOr(0, "(not A or not B)", rClash(0, "A"), rAll(1, 0, "all r- B", rClash(0, "not B")))), []int{1, 2, 3, 4, 5}},

		// RClash, with concepts of all kinds.
		{based("a : bot"), rClash(0, "bot"), []int{0}},
		{based("b : bot"), rClash(1, "bot"), []int{0}},
		{based("b : bot;b : top"), rClash(1, "top"), []int{0, 1}},
		{based("b : bot;b : top"), rClash(1, "bot"), []int{0, 1}},
		{based("b : not C;b : C"), rClash(1, "C"), []int{0, 1}},
		{based("b : not C;b : C"), rClash(1, "not C"), []int{0, 1}},
		{based("a : (A and B);a : (not A or not B)"), rClash(0, "(A and B)"), []int{0, 1}},
		{based("a : (A and B);a : not (A and B)"), rClash(0, "(not A or not B)"), []int{0, 1}},
		{based("a : some s- A;a : all s- not A"), rClash(0, "some s- A"), []int{0, 1}},
		{based("a : not all t bot;a : all t bot"), rClash(0, "all t bot"), []int{0, 1}},

		// RAnd adds both concepts.
		{based("a : (A and not A)"), rAnd(0, "(A and not A)", rClash(0, "A")), []int{0}},
		{based("a : not (A or not A)"), rAnd(0, "(not A and A)", rClash(0, "not A")), []int{0}},
		{based("b : not A;b : (A and C)"), rAnd(1, "(A and C)", rClash(1, "not A")), []int{0, 1}},
		{based("b : not A;b : (C and A)"), rAnd(1, "(C and A)", rClash(1, "not A")), []int{0, 1}},

		// ROr adds one of them to each branch.
		{based("a : (bot or (A and bot))"), rOr(0, "(bot or (A and bot))", rClash(0, "bot"), rAnd(0, "(A and bot)", rClash(0, "bot"))), []int{0}},
		{based("b : not (A and B);b : A;b : B"), rOr(1, "(not A or not B)", rClash(1, "A"), rClash(1, "B")), []int{0, 1, 2}},

		// RSome adds a node that has the next number.
		{based("a : some r bot"), rSome(0, "some r bot", rClash(2, "bot")), []int{0}},
		{based("b : some r- some s bot"), rSome(1, "some r- some s bot", rSome(2, "some s bot", rClash(3, "bot"))), []int{0}},
		{based("b : some r A;b : all r not A"), rSome(1, "some r A", rAll(1, 2, "all r not A", rClash(2, "A"))), []int{0, 1}},
		{based("b : some r- A;b : all r- not A"), rSome(1, "some r- A", rAll(1, 2, "all r- not A", rClash(2, "A"))), []int{0, 1}},
		{based("b : some r- all r A;b : not A"), rSome(1, "some r- all r A", rAll(2, 1, "all r A", rClash(1, "A"))), []int{0, 1}},
		{based("b : some r all r- A;b : not A"), rSome(1, "some r all r- A", rAll(2, 1, "all r- A", rClash(1, "A"))), []int{0, 1}},
		{based("a : some r B;b : bot"), rSome(0, "some r B", rSome(0, "some r B", rClash(1, "bot"))), []int{0, 1}},
		{based("a : (some r A and some s B);a : all s not B"), rAnd(0, "(some r A and some s B)", rSome(0, "some r A", rSome(0, "some s B", rAll(0, 3, "all s not B", rClash(3, "B"))))), []int{0, 1}},

		// RAll, over links and over roles that are below that of the concept.
		{based("(a, b) : r;a : all r A;b : not A"), rAll(0, 1, "all r A", rClash(1, "A")), []int{0, 1, 2}},
		{based("(a, b) : r;b : all r- A;a : not A"), rAll(1, 0, "all r- A", rClash(0, "A")), []int{0, 1, 2}},
		{based("(a, a) : r;a : all r A;a : not A"), rAll(0, 0, "all r A", rClash(0, "A")), []int{0, 1, 2}},
		{based("(a, a) : r;a : all r- A;a : not A"), rAll(0, 0, "all r- A", rClash(0, "A")), []int{0, 1, 2}},
		{based("role r < s;(a, b) : r;a : all s bot"), rAll(0, 1, "all s bot", rClash(1, "bot")), []int{0, 1, 2}},
		{based("role r < s;(a, b) : r;b : all s- bot"), rAll(1, 0, "all s- bot", rClash(0, "bot")), []int{0, 1, 2}},
		{based("role r < s-;(a, b) : r;b : all s bot"), rAll(1, 0, "all s bot", rClash(0, "bot")), []int{0, 1, 2}},
		{based("role r- < s;(a, b) : r;a : all s- bot"), rAll(0, 1, "all s- bot", rClash(1, "bot")), []int{0, 1, 2}},
		{based("role r < s;role s < t-;(a, b) : r;b : all t bot"), rAll(1, 0, "all t bot", rClash(0, "bot")), []int{0, 1, 2, 3}},
		{based("role r < s-;a : some r all s bot"), rSome(0, "some r all s bot", rAll(2, 0, "all s bot", rClash(0, "bot"))), []int{0, 1}},
		{based("(b, a) : r;(a, b) : r;(a, b) : s;(b, a) : r;a : all s bot"), rAll(0, 1, "all s bot", rClash(1, "bot")), []int{0, 1, 2, 3, 4}},

		// RIncl, at individuals and at new nodes.
		{based("top < A;A < bot"), rIncl(1, 1, rOr(1, "(not A or bot)", rIncl(1, 0, rOr(1, "(bot or A)", rClash(1, "bot"), rClash(1, "A"))), rClash(1, "bot"))), []int{0, 1}},
		{based("A < bot;a : some r A"), rSome(0, "some r A", rIncl(2, 0, rOr(2, "(not A or bot)", rClash(2, "A"), rClash(2, "bot")))), []int{0, 1}},
		{based("not A < not not (B and C);b : not (A or B)"), rAnd(1, "(not A and not B)", rIncl(1, 0, rOr(1, "(A or (B and C))", rClash(1, "A"), rAnd(1, "(B and C)", rClash(1, "B"))))), []int{0, 1}},

		// Rules that add nothing new.
		{based("a : (A and A);a : (A or A);b : all r A;(b, a) : r;A < A;a : bot"), rAnd(0, "(A and A)", rAnd(0, "(A and A)", rOr(0, "(A or A)",
			rAll(1, 0, "all r A", rIncl(0, 0, rIncl(0, 0, rClash(0, "bot")))), rAll(1, 0, "all r A", rAll(1, 0, "all r A", rClash(0, "bot")))))), []int{0, 1, 2, 3, 4, 5}},
	}
}

// P7.1 to P7.3: proofs.
func TestProofs(t *testing.T) {
	for _, s := range samples() {
		expectProof(t, text(s.b, s.p), s.b, s.p, s.uses)
	}
}

// P7.1: without individuals, facts and links the graph has one node.
func TestNoIndividuals(t *testing.T) {
	only := "concept A;concept B;role r;"
	b := parsed(only + "top < A;A < some r- bot")
	p := rIncl(0, 0, rOr(0, "(bot or A)", rClash(0, "bot"),
		rIncl(0, 1, rOr(0, "(not A or some r- bot)", rClash(0, "A"), rSome(0, "some r- bot", rClash(1, "bot"))))))
	expectProof(t, "one node", b, p, []int{0, 1})

	for _, x := range append(farNumbers(), 1, 2) {
		expectFault(t, "another node", b, rIncl(x, 0, rOr(x, "(bot or A)", rClash(x, "bot"), rClash(x, "A"))))
	}
	for _, c := range []string{"bot", "top", "A", "not A"} {
		expectFault(t, "an empty label", parsed(only+"top < bot"), rClash(0, c))
		expectFault(t, "no axioms", parsed(only), rClash(0, c))
		expectFault(t, "no names", parsed(""), rClash(0, c))
	}
	expectProof(t, "only an inclusion", parsed("top < bot"), rIncl(0, 0, rOr(0, "(bot or bot)", rClash(0, "bot"), rClash(0, "bot"))), []int{0})
}

// P7.1: all individuals, and all kinds of axioms next to each other.
func TestManyIndividuals(t *testing.T) {
	lines := "concept A;concept B;concept C;role r;role s;role t;"
	for _, ind := range []string{"a", "b", "c", "d", "e", "f", "g", "h", "i", "j"} {
		lines += "ind " + ind + ";"
	}
	b := parsed(lines + "A < B;B < C;role r < s;role s- < t;i : all s not C;c : A;j : A;(j, i) : t;(i, j) : r;a : C")
	p := rIncl(9, 0, rOr(9, "(not A or B)", rClash(9, "A"),
		rIncl(9, 1, rOr(9, "(not B or C)", rClash(9, "B"), rAll(8, 9, "all s not C", rClash(9, "C"))))))
	expectProof(t, "ten individuals", b, p, []int{0, 1, 2, 3, 4, 5, 6, 7, 8, 9})
	p = rSome(9, "some r bot", rClash(10, "bot"))
	expectProof(t, "a node after ten", parsed(lines+"j : some r bot"), p, []int{0})
	expectFault(t, "no node after ten", parsed(lines+"j : some r bot"), changed(p, func(p *api.Proof) { p.Subs[0].X = 2 }), 0)
}

// P7.1: edges of all roles, in both directions, from new nodes and from links.
func TestAllRoles(t *testing.T) {
	lines := "ind a;ind b;role r0;role r1;role r2;role r3;role r4;role r5;"
	bot := api.Concept{Op: api.CBot}
	for role := range 12 {
		inverse := role ^ 1
		b := parsed(lines)
		b.Facts = []api.Fact{{Ind: 1, Concept: some(role, all(inverse, bot))}}
		back := api.Proof{Rule: api.RAll, X: 2, Y: 1, Concept: all(inverse, bot), Subs: []api.Proof{rClash(1, "bot")}}
		p := api.Proof{Rule: api.RSome, X: 1, Concept: b.Facts[0].Concept, Subs: []api.Proof{back}}
		expectProof(t, text(b, p), b, p, []int{0})

		p = changed(back, func(p *api.Proof) { p.X = 0 })
		b.Facts[0] = api.Fact{Ind: 0, Concept: p.Concept}
		for name := range 6 {
			for _, link := range []api.Link{{Role: name, From: 0, To: 1}, {Role: name, From: 1, To: 0}} {
				b.Links = []api.Link{link}
				if 2*name+link.From == inverse {
					expectProof(t, text(b, p), b, p, []int{0, 1})
				} else {
					expectFault(t, text(b, p), b, p)
				}
			}
		}
	}
}

// P7.3: numbers of inclusions once and in increasing order, and all axioms of
// the other kinds.
func TestUses(t *testing.T) {
	bot := rClash(0, "bot")
	for _, c := range []struct {
		axioms string
		p      api.Proof
		want   []int
	}{
		{"a : bot", bot, []int{0}},
		{"A < B;a : bot", bot, []int{1}},
		{"A < B;A < B;a : bot", rIncl(0, 1, bot), []int{1, 2}},
		{"A < B;A < B;A < B;a : bot", rIncl(1, 2, rIncl(0, 0, bot)), []int{0, 2, 3}},
		{"A < B;A < B;A < B;a : bot", rIncl(1, 2, rIncl(0, 1, rIncl(1, 1, rIncl(0, 2, bot)))), []int{1, 2, 3}},
		{"A < B;B < C;a : bot;a : (A or B)", rOr(0, "(A or B)", rIncl(0, 1, bot), rIncl(0, 0, bot)), []int{0, 1, 2, 3}},
		{"A < B;B < C;C < A;a : bot;a : (A or B)", rOr(0, "(A or B)", bot, rIncl(0, 2, bot)), []int{2, 3, 4}},
		{"A < B;B < C;C < A;a : bot;a : (A or B)", rOr(0, "(A or B)", rIncl(0, 0, bot), bot), []int{0, 3, 4}},
		{"A < B;B < C;role r < s;role s < t;b : A;a : bot;(a, b) : r;(b, b) : s", bot, []int{2, 3, 4, 5, 6, 7}},
		{"A < B;B < C;role r < s;role s < t;b : A;a : bot;(a, b) : r;(b, b) : s", rIncl(1, 1, bot), []int{1, 2, 3, 4, 5, 6, 7}},
	} {
		expectProof(t, c.axioms, based(c.axioms), c.p, c.want)
	}

	many := based("a : bot")
	for range 59 {
		many.Incls = append(many.Incls, api.Incl{Sub: top(), Super: name(0)})
	}
	expectProof(t, "60 axioms", many, bot, []int{59})
	expectProof(t, "60 axioms", many, rIncl(0, 58, rIncl(1, 0, bot)), []int{0, 58, 59})
}

// R4: an empty slice and nil are equivalent in proofs.
func TestEmptySlices(t *testing.T) {
	p := rIncl(0, 0, rOr(0, "(not A or B)", rClash(0, "A"), rClash(0, "B")))
	p.Concept.Args = []api.Concept{}
	p.Subs[0].Concept.Args[1].Args = []api.Concept{}
	p.Subs[0].Subs[0].Concept.Args = []api.Concept{}
	p.Subs[0].Subs[0].Subs = []api.Proof{}
	expectProof(t, "empty slices", based("A < B;a : A;a : not B"), p, []int{0, 1, 2})
}
