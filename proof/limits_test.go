package proof_test

import (
	"slices"
	"testing"

	"isagoge/api"
	"isagoge/proof"
)

// sized returns a proof with a number of nodes, for knowledge bases with an
// inclusion and the facts a : (A or B) and a : bot.
func sized(nodes int) api.Proof {
	switch {
	case nodes == 1:
		return rClash(0, "bot")
	case nodes%2 == 0:
		return rIncl(0, 0, sized(nodes-1))
	default:
		return rOr(0, "(A or B)", sized((nodes-1)/2), sized(nodes-1-(nodes-1)/2))
	}
}

// high returns a proof of a height above a last one, for the same ones.
func high(height int, last api.Proof) api.Proof {
	for range height - 1 {
		last = rIncl(1, 0, last)
	}
	return last
}

// full returns a proof in which each node has two Subs, which share memory. It
// stands for 2^height - 1 nodes.
func full(height int) api.Proof {
	p := rClash(0, "bot")
	for range height - 1 {
		p = rOr(0, "(A or B)", p, p)
	}
	return p
}

func simple() api.Base {
	return based("A < B;a : (A or B);a : bot")
}

// P7.1: the size and the height of any tree.
func TestSize(t *testing.T) {
	for _, c := range []struct {
		label        string
		p            api.Proof
		size, height int
	}{
		{"the zero value", api.Proof{}, 1, 1},
		{"a leaf", rClash(0, "bot"), 1, 1},
		{"one Sub", rIncl(0, 0, rClash(0, "bot")), 2, 2},
		{"the first example", samples()[0].p, 4, 3},
		{"three Subs", api.Proof{Subs: make([]api.Proof, 3)}, 4, 2},
		{"a higher first Sub", rOr(0, "A", rOr(5, "top", api.Proof{}, api.Proof{}), api.Proof{}), 5, 3},
		{"a higher second Sub", rOr(0, "A", api.Proof{}, rIncl(-1, -1, rIncl(0, 7, api.Proof{}))), 5, 4},
		{"wrong values", api.Proof{Rule: -1, X: 7, Concept: api.Concept{Op: 9}, Subs: []api.Proof{{Rule: 99}}}, 2, 2},
		{"large concepts", rAnd(0, "(A and (B and C))", rClash(0, "(A or B)")), 2, 2},
		{"many Subs", api.Proof{Subs: make([]api.Proof, 1000000)}, 1000001, 2},
		{"a full tree", full(14), 1<<14 - 1, 14},
		{"the highest proof", high(api.MaxHeight, rClash(0, "bot")), api.MaxHeight, api.MaxHeight},
		{"the deepest nesting", high(1<<16, rClash(0, "bot")), 1 << 16, 1 << 16},
		{"shared memory", full(20), 1<<20 - 1, 20},
	} {
		if size, height := proof.Size(c.p); size != c.size || height != c.height {
			t.Errorf("%s: size %d, height %d, not %d and %d", c.label, size, height, c.size, c.height)
		}
	}
}

// P7.1 to P7.3: proofs at the limits, and beyond them.
func TestLimits(t *testing.T) {
	wrong := rClash(0, "A")
	many := rOr(0, "(A or B)", slices.Repeat([]api.Proof{rClash(0, "bot")}, api.MaxProof)...)
	for _, c := range []struct {
		label string
		p     api.Proof
		want  api.Errno
	}{
		{"size 19999", sized(api.MaxProof - 1), api.OK},
		{"size 20000", sized(api.MaxProof), api.OK},
		{"size 20001", sized(api.MaxProof + 1), api.ErrLarge},
		{"size 20002", sized(api.MaxProof + 2), api.ErrLarge},
		{"height 1999", high(api.MaxHeight-1, rClash(0, "bot")), api.OK},
		{"height 2000", high(api.MaxHeight, rClash(0, "bot")), api.OK},
		{"height 2001", high(api.MaxHeight+1, rClash(0, "bot")), api.ErrLarge},
		{"height 2002", high(api.MaxHeight+2, rClash(0, "bot")), api.ErrLarge},
		{"height 2000 on the right", rOr(0, "(A or B)", rClash(0, "bot"), high(api.MaxHeight-1, rClash(0, "bot"))), api.OK},
		{"height 2001 on the right", rOr(0, "(A or B)", rClash(0, "bot"), high(api.MaxHeight, rClash(0, "bot"))), api.ErrLarge},
		{"height 2001 on the left", rOr(0, "(A or B)", high(api.MaxHeight, rClash(0, "bot")), rClash(0, "bot")), api.ErrLarge},
		{"both sides as high", rOr(0, "(A or B)", high(api.MaxHeight-1, rClash(0, "bot")), high(api.MaxHeight-1, rClash(0, "bot"))), api.OK},
		{"full trees", full(14), api.OK},
		{"size 20001 with a fault", changed(sized(api.MaxProof+1), func(p *api.Proof) { p.X = -1 }), api.ErrLarge},
		{"height 2001 with a fault", high(api.MaxHeight+1, wrong), api.ErrLarge},
		{"height 2001 with faults", rClash(0, "C", high(api.MaxHeight, wrong)), api.ErrLarge},
		{"20001 nodes, 20000 of them Subs of the first one", many, api.ErrLarge},
		{"a million Subs", api.Proof{Rule: -1, Subs: make([]api.Proof, 1000000)}, api.ErrLarge},
		{"the deepest nesting", high(1<<16, rClash(0, "bot")), api.ErrLarge},
		{"2^15 nodes", full(15), api.ErrLarge},
		{"2^60 nodes", full(60), api.ErrLarge},
		{"2^1999 nodes", full(1999), api.ErrLarge},
	} {
		if c.want != api.OK {
			expectError(t, c.label, simple(), c.p, c.want)
			continue
		}
		if e := proof.Check(simple(), c.p); e != api.OK {
			t.Errorf("%s: error %d", c.label, e)
		}
		if path, found, e := proof.Fault(simple(), c.p); path != nil || found || e != api.OK {
			t.Errorf("%s: a fault at %v, error %d", c.label, path, e)
		}
		if used, e := proof.Uses(simple(), c.p); len(used) == 0 || used[len(used)-1] != 2 || e != api.OK {
			t.Errorf("%s: uses %v, error %d", c.label, used, e)
		}
	}

	many.Subs = many.Subs[1:]
	expectFault(t, "20000 nodes, 19999 of them Subs of the first one", simple(), many)
	expectFault(t, "a fault at the greatest depth", simple(), high(api.MaxHeight, wrong), slices.Repeat([]int{0}, api.MaxHeight-1)...)
	expectFault(t, "a fault at the greatest depth", simple(), rOr(0, "(A or B)", rClash(0, "bot"), high(api.MaxHeight-1, wrong)), slices.Concat([]int{1}, make([]int, api.MaxHeight-2))...)
}

// grow returns a proof that applies RSome to the individual a a number of times,
// and then continues.
func grow(times int, last api.Proof) api.Proof {
	for range times {
		last = rSome(0, "some r A", last)
	}
	return last
}

// P7.1: RSome in graphs with MaxElems - 1 and with MaxElems nodes.
func TestMaxElems(t *testing.T) {
	b := based("a : some r A;b : bot;a : all r B;a : all r- C")
	bot := rClash(1, "bot")
	for _, times := range []int{1, 2, 100, 197, 198} {
		expectProof(t, shown(times+2)+" nodes", b, grow(times, bot), []int{0, 1, 2, 3})
		last := times + 1
		deeper := rAll(0, last, "all r B", rClash(last, "not B"))
		expectFault(t, "the last node exists", b, grow(times, deeper), make([]int, times+1)...)
		deeper.Y++
		expectFault(t, "the node after it does not", b, grow(times, deeper), make([]int, times)...)
	}
	for _, times := range []int{199, 200, 300} {
		expectFault(t, shown(times+2)+" nodes", b, grow(times, bot), make([]int, 198)...)
	}

	one := parsed("concept A;role r;top < some r A;A < bot")
	chain := rClash(199, "A")
	chain = rIncl(199, 1, rOr(199, "(not A or bot)", chain, rClash(199, "bot")))
	for x := 198; x >= 0; x-- {
		chain = rIncl(x, 0, rOr(x, "(bot or some r A)", rClash(x, "bot"), rSome(x, "some r A", chain)))
	}
	expectProof(t, "a chain of 200 nodes", one, chain, []int{0, 1})

	first := samples()[0].b
	for k := range 8 {
		first.Names.Inds = append(first.Names.Inds, "c"+shown(k))
	}
	first.Facts = append(first.Facts, api.Fact{Ind: 9, Concept: of("some r A")}, api.Fact{Ind: 1, Concept: of("bot")})
	many := bot
	for range 190 {
		many = rSome(9, "some r A", many)
	}
	expectProof(t, "ten individuals", first, many, []int{1, 2, 3, 4})
	expectFault(t, "ten individuals", first, rSome(9, "some r A", many), make([]int, 190)...)
}

// Normal forms in labels that are too large or too deep for a concept.
func TestLargeLabels(t *testing.T) {
	wide := bushy(and, 134, name(0))
	b := based("a : bot;b : A")
	b.Facts = append(b.Facts, api.Fact{Ind: 1, Concept: not(wide)})
	large := bushy(or, 134, not(name(0)))
	var split func(c api.Concept) api.Proof
	split = func(c api.Concept) api.Proof {
		p := api.Proof{X: 1, Concept: c}
		if c.Op == api.COr {
			p.Rule = api.ROr
			p.Subs = []api.Proof{split(c.Args[0]), split(c.Args[1])}
		}
		return p
	}
	expectProof(t, "a fact with a large normal form", b, split(large), []int{0, 1, 2})
	expectFault(t, "the fact itself", b, split(not(wide)))

	deep, negation := name(0), not(name(0))
	for range 19 {
		deep, negation = and(top(), deep), or(api.Concept{Op: api.CBot}, negation)
	}
	b = based("a : bot")
	b.Incls = []api.Incl{{Sub: deep, Super: deep}}
	p := rIncl(0, 0, api.Proof{Rule: api.ROr, Concept: or(negation, deep), Subs: []api.Proof{rClash(0, "bot"), {Rule: api.RAnd, Concept: deep, Subs: []api.Proof{rClash(0, "bot")}}}})
	expectProof(t, "a deep inclusion", b, p, []int{0, 1})
	expectFault(t, "another one", b, changed(p, func(p *api.Proof) { p.Subs[0].Concept = or(negation, negation) }), 0)
}

// P1, P7.1: trees of any size and with any values.
func TestHostileProofs(t *testing.T) {
	shared := name(0)
	for range 60 {
		shared = and(shared, shared)
	}
	deep := name(0)
	for range 1<<16 - 1 {
		deep = not(deep)
	}
	concepts := []api.Concept{shared, deep, {Op: api.CAnd, Args: make([]api.Concept, 1000000)}, {Op: 1 << 60, N: -1 << 60}, some(1<<60, shared), {Op: api.CAll, Args: []api.Concept{shared, shared}}}
	for _, c := range concepts {
		for rule := -1; rule <= 6; rule++ {
			p := api.Proof{Rule: rule, Concept: c, Subs: []api.Proof{rClash(0, "bot")}}
			if got := proof.Check(simple(), p); got != api.ErrProof {
				t.Errorf("rule %d: error %d", rule, got)
			}
			if path, found, e := proof.Fault(simple(), p); len(path) > 0 || !found || e != api.OK {
				t.Errorf("rule %d: a fault at %v, %v, error %d", rule, path, found, e)
			}
		}
	}
}

// R1, R2: knowledge bases that are not valid, then proofs that are too large,
// then those that are wrong.
func TestErrors(t *testing.T) {
	for _, b := range wrongBases() {
		for _, p := range []api.Proof{rClash(0, "bot"), rClash(0, "A"), {}, {Rule: -1}, sized(api.MaxProof + 1), high(api.MaxHeight+1, api.Proof{}), full(60)} {
			expectError(t, "a wrong knowledge base", b, p, api.ErrBase)
		}
	}
	for _, b := range []api.Base{based(""), parsed(""), simple(), based("top < bot")} {
		expectError(t, "too many nodes", b, full(60), api.ErrLarge)
		expectError(t, "too high", b, high(api.MaxHeight+1, api.Proof{Rule: -1}), api.ErrLarge)
		expectFault(t, "a wrong root", b, api.Proof{Rule: -1, Subs: []api.Proof{{}}})
		expectFault(t, "the zero value", b, api.Proof{})
	}
}
