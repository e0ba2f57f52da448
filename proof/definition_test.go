package proof_test

import (
	"maps"
	"math/rand"
	"slices"
	"testing"

	"isagoge/api"
	"isagoge/concept"
	"isagoge/hier"
	"isagoge/proof"
)

// A graph follows the section Terms of the chapter by the letter: it has a
// label for each node, as a map with the strings of concepts, and edges.
type graph struct {
	labels []map[string]api.Concept
	edges  [][3]int
}

// A definition has what a proof for a knowledge base is checked against.
type definition struct {
	b     api.Base
	below map[[2]int]bool
}

func defined(b api.Base) definition {
	d := definition{b, map[[2]int]bool{}}
	for r := range 2 * len(b.Names.Roles) {
		for s := range 2 * len(b.Names.Roles) {
			d.below[[2]int{r, s}], _ = hier.Below(b, r, s)
		}
	}
	return d
}

func (d definition) normal(c api.Concept) api.Concept {
	c, e := concept.Normal(d.b.Names, c)
	if e != api.OK {
		panic(e)
	}
	return c
}

// key returns the string of c, and false if c is not valid.
func (d definition) key(c api.Concept) (string, bool) {
	s, e := concept.String(d.b.Names, c)
	return s, e == api.OK
}

// plus returns a copy of g with c in the label of x.
func (d definition) plus(g graph, x int, c api.Concept) graph {
	g = graph{slices.Clone(g.labels), g.edges}
	for y := range g.labels {
		g.labels[y] = maps.Clone(g.labels[y])
	}
	s, valid := d.key(c)
	if !valid {
		panic(s)
	}
	g.labels[x][s] = c
	return g
}

// initial returns the initial graph.
func (d definition) initial() graph {
	g := graph{}
	for range max(len(d.b.Names.Inds), 1) {
		g.labels = append(g.labels, map[string]api.Concept{})
	}
	for _, x := range d.b.Facts {
		g = d.plus(g, x.Ind, d.normal(x.Concept))
	}
	for _, x := range d.b.Links {
		g.edges = append(g.edges, [3]int{x.From, 2 * x.Role, x.To})
	}
	return g
}

// isIn reports whether c is in the label of x.
func (d definition) isIn(g graph, x int, c api.Concept) bool {
	s, valid := d.key(c)
	_, known := g.labels[x][s]
	return valid && known
}

// isNeighbor reports whether y is an s-neighbor of x.
func (d definition) isNeighbor(g graph, x, s, y int) bool {
	return slices.ContainsFunc(g.edges, func(e [3]int) bool {
		return e[0] == x && e[2] == y && d.below[[2]int{e[1], s}] || e[0] == y && e[2] == x && d.below[[2]int{e[1] ^ 1, s}]
	})
}

// after returns the graphs for the Subs of a proof, and false if its rule is not
// applicable in g.
func (d definition) after(g graph, p api.Proof) ([]graph, bool) {
	nothing := concept.Same(p.Concept, api.Concept{})
	used := map[int][3]bool{api.RAll: {true, false, true}, api.RIncl: {false, true, false}}
	for rule := range api.RAll {
		used[rule] = [3]bool{false, false, true}
	}
	uses, known := used[p.Rule]
	switch {
	case !known, p.X < 0, p.X >= len(g.labels):
		return nil, false
	case !uses[0] && p.Y != 0, !uses[1] && p.N != 0, !uses[2] && !nothing:
		return nil, false
	case uses[0] && (p.Y < 0 || p.Y >= len(g.labels)), uses[1] && (p.N < 0 || p.N >= len(d.b.Incls)), uses[2] && !d.isIn(g, p.X, p.Concept):
		return nil, false
	}
	op, args := p.Concept.Op, p.Concept.Args
	switch p.Rule {
	case api.RClash:
		return nil, op == api.CBot || d.isIn(g, p.X, d.normal(not(p.Concept)))
	case api.RAnd:
		if op == api.CAnd {
			return []graph{d.plus(d.plus(g, p.X, args[0]), p.X, args[1])}, true
		}
	case api.ROr:
		if op == api.COr {
			return []graph{d.plus(g, p.X, args[0]), d.plus(g, p.X, args[1])}, true
		}
	case api.RSome:
		if y := len(g.labels); op == api.CSome && y < api.MaxElems {
			larger := graph{append(slices.Clone(g.labels), map[string]api.Concept{}), append(slices.Clone(g.edges), [3]int{p.X, p.Concept.N, y})}
			return []graph{d.plus(larger, y, args[0])}, true
		}
	case api.RAll:
		if op == api.CAll && d.isNeighbor(g, p.X, p.Concept.N, p.Y) {
			return []graph{d.plus(g, p.Y, args[0])}, true
		}
	case api.RIncl:
		return []graph{d.plus(g, p.X, d.normal(or(not(d.b.Incls[p.N].Sub), d.b.Incls[p.N].Super)))}, true
	}
	return nil, false
}

// fault returns the path to the first node of p that is wrong in g.
func (d definition) fault(g graph, p api.Proof) ([]int, bool) {
	graphs, applicable := d.after(g, p)
	if !applicable || len(graphs) != len(p.Subs) {
		return nil, true
	}
	for k, sub := range p.Subs {
		if path, found := d.fault(graphs[k], sub); found {
			return append([]int{k}, path...), true
		}
	}
	return nil, false
}

// uses returns the numbers of the axioms that a proof uses.
func (d definition) uses(p api.Proof) []int {
	met := map[int]bool{}
	var collect func(p api.Proof)
	collect = func(p api.Proof) {
		if p.Rule == api.RIncl {
			met[p.N] = true
		}
		for _, sub := range p.Subs {
			collect(sub)
		}
	}
	collect(p)
	for k := range len(d.b.Roles) + len(d.b.Facts) + len(d.b.Links) {
		met[len(d.b.Incls)+k] = true
	}
	return slices.Sorted(maps.Keys(met))
}

// checkDefinition checks the results for a proof or what is none, and returns
// whether it is one.
func checkDefinition(t *testing.T, d definition, p api.Proof) bool {
	t.Helper()
	var uses []int
	wantError := api.ErrProof
	path, found := d.fault(d.initial(), p)
	if !found {
		uses, wantError = d.uses(p), api.OK
	}
	e := proof.Check(d.b, p)
	gotPath, gotFound, f := proof.Fault(d.b, p)
	got, g := proof.Uses(d.b, p)
	if e != wantError || !slices.Equal(gotPath, path) || gotFound != found || f != api.OK || !slices.Equal(got, uses) || g != wantError {
		t.Errorf("%s: errors %d, %d, %d, a fault at %v, %v, uses %v, not at %v, %v, uses %v", text(d.b, p), e, f, g, gotPath, gotFound, got, path, found, uses)
	}
	return !found
}

// nodesOf returns how many nodes p has.
func nodesOf(p api.Proof) int {
	count := 1
	for _, sub := range p.Subs {
		count += nodesOf(sub)
	}
	return count
}

// at returns a copy of p in which a node, counted in preorder, is changed.
func at(p api.Proof, node int, change func(p *api.Proof)) api.Proof {
	if node == 0 {
		p.Subs = slices.Clone(p.Subs)
		change(&p)
		return p
	}
	p.Subs = slices.Clone(p.Subs)
	node--
	for k, sub := range p.Subs {
		if count := nodesOf(sub); node >= count {
			node -= count
			continue
		}
		p.Subs[k] = at(sub, node, change)
		break
	}
	return p
}

// changes are small changes of a node.
func changes() []func(p *api.Proof) {
	var l []func(p *api.Proof)
	for k := -1; k <= 6; k++ {
		l = append(l, func(p *api.Proof) { p.Rule = k }, func(p *api.Proof) { p.X = k }, func(p *api.Proof) { p.Y = k }, func(p *api.Proof) { p.N = k })
	}
	for _, s := range []string{"A", "B", "bot", "top", "not A", "not B", "(A and B)", "(not A or B)", "some r A", "all r A", "all r- A"} {
		l = append(l, func(p *api.Proof) { p.Concept = of(s) })
	}
	return append(l,
		func(p *api.Proof) { p.Concept = not(p.Concept) },
		func(p *api.Proof) { p.Concept.Op ^= 1 },
		func(p *api.Proof) { p.Concept.N ^= 1 },
		func(p *api.Proof) { p.Concept.Args = append(slices.Clone(p.Concept.Args), name(0)) },
		func(p *api.Proof) { p.Subs = nil },
		func(p *api.Proof) { p.Subs = append(p.Subs, rClash(0, "A")) },
		func(p *api.Proof) { slices.Reverse(p.Subs) },
		func(p *api.Proof) { p.Subs = p.Subs[:len(p.Subs)/2] },
		func(p *api.Proof) { p.Subs = append(p.Subs, *p) },
		func(p *api.Proof) { *p = rIncl(p.X, 0, *p) },
		func(p *api.Proof) { *p = rIncl(p.X, 1, *p) },
		func(p *api.Proof) { *p = rIncl(1, 0, *p) },
	)
}

// P7.1 to P7.3: the same by the definition, for all small changes of the
// samples.
func TestChangedSamples(t *testing.T) {
	accepted, refused := 0, 0
	for _, s := range samples() {
		d := defined(s.b)
		for node := range nodesOf(s.p) {
			for _, change := range changes() {
				if checkDefinition(t, d, at(s.p, node, change)) {
					accepted++
				} else {
					refused++
				}
			}
		}
	}
	if accepted < 300 || refused < 3000 {
		t.Errorf("%d accepted, %d refused", accepted, refused)
	}
}

// P7.1 to P7.3: the same by the definition, for proofs that were found for random
// knowledge bases, and for changes of them.
func TestRandomProofs(t *testing.T) {
	r := rand.New(rand.NewSource(1))
	rules := make([]int, 6)
	accepted, refused := 0, 0
	for range 700 {
		b := randomBase(r)
		p, found := proved(r, b)
		if !found {
			continue
		}
		d := defined(b)
		count(p, rules)
		if !checkDefinition(t, d, p) {
			t.Errorf("not accepted: %s", text(b, p))
		}
		for range 20 {
			q := p
			for range 1 + r.Intn(2) {
				q = at(q, r.Intn(nodesOf(q)), changes()[r.Intn(len(changes()))])
			}
			if checkDefinition(t, d, q) {
				accepted++
			} else {
				refused++
			}
		}
	}
	if slices.Min(rules) < 50 || accepted < 200 || refused < 2000 {
		t.Errorf("%d nodes by rules, %d accepted, %d refused", rules, accepted, refused)
	}
}

// count adds the numbers of nodes of p by rules.
func count(p api.Proof, rules []int) {
	rules[p.Rule]++
	for _, sub := range p.Subs {
		count(sub, rules)
	}
}
