package search_test

import (
	"maps"
	"math/rand"
	"slices"
	"testing"

	"isagoge/api"
	"isagoge/concept"
	"isagoge/hier"
	"isagoge/proof"
	"isagoge/search"
)

// A graph follows the section Terms of chapter 7 by the letter: it has a label
// for each node, as a map with the strings of concepts, and edges.
type graph struct {
	b      api.Base
	labels []map[string]api.Concept
	edges  [][3]int
}

// normal returns a concept in negation normal form, and its string.
func (g graph) normal(c api.Concept) (api.Concept, string) {
	c, e := concept.Normal(g.b.Names, c)
	s, f := concept.String(g.b.Names, c)
	if e != api.OK || f != api.OK {
		panic(e)
	}
	return c, s
}

// graphOf returns the initial graph of b.
func graphOf(b api.Base) graph {
	g := graph{b: b}
	for range max(len(b.Names.Inds), 1) {
		g.labels = append(g.labels, map[string]api.Concept{})
	}
	for _, x := range b.Facts {
		g = g.plus(x.Ind, x.Concept)
	}
	for _, x := range b.Links {
		g.edges = append(g.edges, [3]int{x.From, 2 * x.Role, x.To})
	}
	return g
}

// plus returns a copy of g with concepts in the label of x.
func (g graph) plus(x int, further ...api.Concept) graph {
	g.labels = slices.Clone(g.labels)
	g.labels[x] = maps.Clone(g.labels[x])
	for _, c := range further {
		c, s := g.normal(c)
		g.labels[x][s] = c
	}
	return g
}

// has reports whether concepts are in the label of x.
func (g graph) has(x int, list ...api.Concept) bool {
	return !slices.ContainsFunc(list, func(c api.Concept) bool {
		_, s := g.normal(c)
		_, known := g.labels[x][s]
		return !known
	})
}

// isNeighbor reports whether y is a neighbor of x for a role.
func (g graph) isNeighbor(x, role, y int) bool {
	return slices.ContainsFunc(g.edges, func(e [3]int) bool {
		forth, _ := hier.Below(g.b, e[1], role)
		back, _ := hier.Below(g.b, e[1]^1, role)
		return e[0] == x && e[2] == y && forth || e[0] == y && e[2] == x && back
	})
}

// added returns the concepts that p adds, for each of its Subs, and the node to
// whose label it adds them.
func (g graph) added(p api.Proof) (x int, lists [][]api.Concept) {
	args := p.Concept.Args
	switch p.Rule {
	case api.RAnd:
		return p.X, [][]api.Concept{args}
	case api.ROr:
		return p.X, [][]api.Concept{args[:1], args[1:]}
	case api.RSome:
		return len(g.labels), [][]api.Concept{args}
	case api.RAll:
		return p.Y, [][]api.Concept{args}
	case api.RIncl:
		return p.X, [][]api.Concept{{or(not(g.b.Incls[p.N].Sub), g.b.Incls[p.N].Super)}}
	}
	return p.X, nil
}

// after returns the graph for one of the Subs of p.
func (g graph) after(p api.Proof, k int) graph {
	x, lists := g.added(p)
	if p.Rule == api.RSome {
		g.labels = append(slices.Clone(g.labels), map[string]api.Concept{})
		g.edges = append(slices.Clone(g.edges), [3]int{p.X, p.Concept.N, x})
	}
	return g.plus(x, lists[k]...)
}

// isSuperfluous reports whether p adds nothing in one of its ways.
func (g graph) isSuperfluous(p api.Proof) bool {
	x, lists := g.added(p)
	return p.Rule != api.RSome && slices.ContainsFunc(lists, func(list []api.Concept) bool { return g.has(x, list...) })
}

// superfluous returns how many steps of p are superfluous.
func (g graph) superfluous(p api.Proof) int {
	count := 0
	if g.isSuperfluous(p) {
		count++
	}
	for k, sub := range p.Subs {
		count += g.after(p, k).superfluous(sub)
	}
	return count
}

// expectShorter checks a shorter proof than p, which has some superfluous steps,
// and returns it.
func expectShorter(t *testing.T, label string, b api.Base, p api.Proof) api.Proof {
	t.Helper()
	q, e := search.Shorter(b, p)
	size, height := proof.Size(p)
	shorter, lower := proof.Size(q)
	if f := proof.Check(b, q); e != api.OK || f != api.OK {
		t.Errorf("%s: errors %d, %d: %.500s", label, e, f, shown(q))
		return q
	}
	count, left := graphOf(b).superfluous(p), graphOf(b).superfluous(q)
	if left > 0 || shorter > size-count || lower > height || count == 0 && shown(p) != shown(q) {
		t.Errorf("%s: size %d, height %d, %d superfluous, and then size %d, height %d, %d superfluous", label, size, height, count, shorter, lower, left)
	}
	return q
}

// P8.3: superfluous steps at the root, deep in the proof, and in both Subs.
func TestShorter(t *testing.T) {
	b := based("A < B;C < B;a : (A or C);a : not B;a : (not B and not B);a : (B or not B);b : all r not B;(b, a) : r;a : some r A;a : (A or A)")
	first := rIncl(0, 0, rOr(0, "(not A or B)", rClash(0, "A"), rClash(0, "B")))
	second := rIncl(0, 1, rOr(0, "(not C or B)", rClash(0, "C"), rClash(0, "not B")))
	cases := func(first, second api.Proof) api.Proof { return rOr(0, "(A or C)", first, second) }
	plain := cases(first, second)
	superfluous := []func(p api.Proof) api.Proof{
		func(p api.Proof) api.Proof { return rAnd(0, "(not B and not B)", p) },
		func(p api.Proof) api.Proof { return rAll(1, 0, "all r not B", p) },
		func(p api.Proof) api.Proof { return rOr(0, "(B or not B)", rClash(0, "B"), p) },
		func(p api.Proof) api.Proof { return rAll(1, 0, "all r not B", rAnd(0, "(not B and not B)", p)) },
		func(p api.Proof) api.Proof {
			return rOr(0, "(B or not B)", rClash(0, "not B"), rAll(1, 0, "all r not B", p))
		},
		func(p api.Proof) api.Proof { return rOr(0, "(B or not B)", rAnd(0, "(not B and not B)", p), p) },
	}
	expectShorter(t, "nothing superfluous", b, plain)
	for k, more := range superfluous {
		for place, p := range []api.Proof{more(plain), cases(more(first), second), cases(first, more(second)), more(cases(more(first), more(second))), cases(first, rIncl(0, 1, more(second.Subs[0]))), cases(first, rIncl(0, 1, rOr(0, "(not C or B)", more(rClash(0, "C")), more(rClash(0, "B")))))} {
			q := expectShorter(t, shown([]int{k, place}), b, p)
			if size, _ := proof.Size(q); size != 9 {
				t.Errorf("%d, %d: size %d: %s", k, place, size, shown(q))
			}
		}
	}

	// Steps that are superfluous only after others.
	again := rIncl(0, 0, rIncl(0, 0, rOr(0, "(not A or B)", rClash(0, "A"), rIncl(0, 0, rOr(0, "(not A or B)", rClash(0, "A"), rClash(0, "B"))))))
	q := expectShorter(t, "again", b, cases(again, second))
	expect(t, "again", shown(q), api.OK, shown(plain), api.OK)
	twice := cases(cases(first, second), second)
	q = expectShorter(t, "twice", b, twice)
	expect(t, "twice", shown(q), api.OK, shown(plain), api.OK)
	both := rOr(0, "(A or A)", first, cases(first, second))
	q = expectShorter(t, "both", b, cases(both, second))
	expect(t, "both", shown(q), api.OK, shown(plain), api.OK)

	// A conjunction of which only one part is new is not superfluous.
	half := based("a : (A and B);a : A;b : (B and A);b : A;a : not B;b : not B")
	expectShorter(t, "one part", half, rAnd(0, "(A and B)", rClash(0, "B")))
	expectShorter(t, "one part", half, rAnd(1, "(B and A)", rClash(1, "B")))
}

// P8.3: new nodes are never superfluous, and the steps at one of them are others
// than those at the next one.
func TestShorterNodes(t *testing.T) {
	b := based("A < B;a : some r A;a : all r not B;b : bot")
	at := func(x int, p api.Proof) api.Proof { return rAll(0, x, "all r not B", rIncl(x, 0, p)) }
	end := func(x int) api.Proof { return rOr(x, "(not A or B)", rClash(x, "A"), rClash(x, "B")) }
	expectShorter(t, "one node", b, rSome(0, "some r A", at(2, end(2))))
	expectShorter(t, "two nodes", b, rSome(0, "some r A", rSome(0, "some r A", at(3, at(2, end(3))))))
	expectShorter(t, "no node needed", b, rSome(0, "some r A", rClash(1, "bot")))
	expectShorter(t, "a node below", b, rSome(0, "some r A", at(2, at(2, rSome(0, "some r A", at(2, at(3, at(3, end(3)))))))))
}

// P8.3: proofs into which steps were put at random places.
func TestShorterRandom(t *testing.T) {
	r := rand.New(rand.NewSource(1))
	inserted := 0
	for range 400 {
		b := randomBase(r)
		a := asked(t, b, api.MaxSteps)
		if !a.Known || a.Consistent {
			continue
		}
		expectShorter(t, text(b), b, a.Proof)
		for range 5 {
			p := inflated(r, graphOf(b), a.Proof)
			inserted += graphOf(b).superfluous(p)
			expectShorter(t, text(b), b, p)
		}
	}
	if inserted < 500 {
		t.Errorf("%d superfluous steps", inserted)
	}
}

// inflated returns p with further steps, each applicable where it is.
func inflated(r *rand.Rand, g graph, p api.Proof) api.Proof {
	var list []api.Proof
	for x := range g.labels {
		for n := range g.b.Incls {
			list = append(list, api.Proof{Rule: api.RIncl, X: x, N: n})
		}
		for _, s := range slices.Sorted(maps.Keys(g.labels[x])) {
			list = append(list, g.steps(x, g.labels[x][s])...)
		}
	}
	if size, _ := proof.Size(p); size < 100 && len(list) > 0 && r.Intn(3) == 0 {
		step := list[r.Intn(len(list))]
		_, lists := g.added(step)
		for range lists {
			step.Subs = append(step.Subs, p)
		}
		p = step
	}
	q := p
	q.Subs = nil
	for k, sub := range p.Subs {
		q.Subs = append(q.Subs, inflated(r, g.after(p, k), sub))
	}
	return q
}

// steps returns the steps for c, in the label of x, that add no node.
func (g graph) steps(x int, c api.Concept) []api.Proof {
	switch c.Op {
	case api.CAnd:
		return []api.Proof{{Rule: api.RAnd, X: x, Concept: c}}
	case api.COr:
		return []api.Proof{{Rule: api.ROr, X: x, Concept: c}}
	case api.CAll:
		var list []api.Proof
		for y := range g.labels {
			if g.isNeighbor(x, c.N, y) {
				list = append(list, api.Proof{Rule: api.RAll, X: x, Y: y, Concept: c})
			}
		}
		return list
	}
	return nil
}

// slicesOf returns the addresses of the first items of all slices of p.
func slicesOf(p api.Proof) []any {
	var list []any
	var visit func(c api.Concept)
	visit = func(c api.Concept) {
		if len(c.Args) > 0 {
			list = append(list, &c.Args[0])
		}
		for _, arg := range c.Args {
			visit(arg)
		}
	}
	visit(p.Concept)
	if len(p.Subs) > 0 {
		list = append(list, &p.Subs[0])
	}
	for _, sub := range p.Subs {
		list = append(list, slicesOf(sub)...)
	}
	return list
}

// R4: no two slices of a proof share memory with each other, or with one of the
// argument.
func TestNewMemory(t *testing.T) {
	for _, b := range []api.Base{based("A < B;a : A;a : not B"), pigeons(4, 3).base(""), counter(3).base("a : " + number(3, 0) + ";top < some r top;C3 < bot"), coloring(3, 4).base("")} {
		p := expectVerdict(t, b, api.MaxSteps, false).Proof
		q := expectShorter(t, text(b), b, p)
		again := expectVerdict(t, b, api.MaxSteps, false).Proof
		list := slices.Concat(slicesOf(p), slicesOf(q), slicesOf(again))
		met := map[any]bool{}
		for _, first := range list {
			met[first] = true
		}
		if len(met) != len(list) {
			t.Errorf("%.700s: %d of %d slices", text(b), len(met), len(list))
		}
		if shown(p) != shown(again) {
			t.Errorf("%.700s: another proof", text(b))
		}
	}
}
