package task_test

import (
	"testing"

	"isagoge/api"
	"isagoge/task"
)

// expectRight checks what Right reports for the axiom of a line over the
// declared names.
func expectRight(t *testing.T, axioms, line string, v task.Verdict, want bool) {
	t.Helper()
	got, e := task.Right(based(axioms), said(line), v)
	expect(t, axioms+": "+line+": "+shown(v), got, e, want, api.OK)
}

// models are changes that make an interpretation that is a zero value something
// else.
func models() []func(i *api.Interp) {
	return []func(i *api.Interp){
		func(i *api.Interp) { i.Size = 1 },
		func(i *api.Interp) { i.Size = -1 },
		func(i *api.Interp) { i.Concepts = make([][]int, 1) },
		func(i *api.Interp) { i.Roles = make([][][2]int, 3) },
		func(i *api.Interp) { i.Inds = []int{0} },
		func(i *api.Interp) { *i = loop() },
	}
}

// proofs are changes that make a proof that is a zero value something else.
func proofs() []func(p *api.Proof) {
	return []func(p *api.Proof){
		func(p *api.Proof) { p.Rule = api.RAnd },
		func(p *api.Proof) { p.Rule = -1 },
		func(p *api.Proof) { p.X = 1 },
		func(p *api.Proof) { p.Y = 1 },
		func(p *api.Proof) { p.N = 1 },
		func(p *api.Proof) { p.Concept.Op = api.CBot },
		func(p *api.Proof) { p.Concept.N = 1 },
		func(p *api.Proof) { p.Concept.Args = make([]api.Concept, 1) },
		func(p *api.Proof) { p.Subs = make([]api.Proof, 1) },
		func(p *api.Proof) { *p = cases(1) },
	}
}

// loop is an interpretation of the declared names and one more individual: that
// is an element of A alone, as a is.
func loop() api.Interp {
	return api.Interp{Size: 2, Concepts: [][]int{{0}, nil, {1}}, Roles: [][][2]int{{{0, 1}}, nil, {{1, 1}}}, Inds: []int{0, 1, 0}}
}

// cases is a proof where the first inclusion is `A < B`, and the individual x is
// an element of A, and of `not B`.
func cases(x int) api.Proof {
	leaf := func(n int) api.Proof { return api.Proof{Rule: api.RClash, X: x, Concept: name(n)} }
	either := api.Concept{Op: api.COr, Args: []api.Concept{not(name(0)), name(1)}}
	return api.Proof{Rule: api.RIncl, X: x, Subs: []api.Proof{{Rule: api.ROr, X: x, Concept: either, Subs: []api.Proof{leaf(0), leaf(1)}}}}
}

// split is a proof where the individual x is an element of `(A and not B)`, too.
func split(x int) api.Proof {
	both := api.Concept{Op: api.CAnd, Args: []api.Concept{name(0), not(name(1))}}
	return api.Proof{Rule: api.RAnd, X: x, Concept: both, Subs: []api.Proof{cases(x)}}
}

// without returns a model of a test for a fact: the interpretation loop, without
// its last individual.
func without() api.Interp {
	i := loop()
	i.Inds = i.Inds[:2]
	return i
}

// P9.3: verdicts for inclusions and facts are judged by their evidence.
func TestRight(t *testing.T) {
	holds := func(p api.Proof) task.Verdict { return task.Verdict{Known: true, Holds: true, Proof: p} }
	fails := func(i api.Interp) task.Verdict { return task.Verdict{Known: true, Counter: i} }
	for _, c := range []struct {
		axioms, line string
		v            task.Verdict
		want         bool
	}{
		{"A < B", "A < B", holds(split(2)), true},
		{"A < B", "A < B", holds(split(1)), false},
		{"A < B", "A < B", holds(cases(2)), false},
		{"A < B", "A < B", holds(api.Proof{}), false},
		{"A < B", "A < B", task.Verdict{Known: true, Proof: split(2)}, false},
		{"A < B", "A < B", task.Verdict{Holds: true, Proof: split(2)}, false},
		{"A < B", "A < B", fails(loop()), false},
		{"A < B", "A < C", holds(split(2)), false},
		{"A < B", "B < A", holds(split(2)), false},
		{"B < A", "A < B", holds(split(2)), false},
		{"C < B", "A < B", holds(split(2)), false},
		{"A < B;b : C", "A < B", holds(split(2)), true},
		{"C < C;A < B", "A < B", holds(split(2)), false},

		{"a : A", "A < B", fails(loop()), true},
		{"a : A", "A < C", fails(loop()), true},
		{"a : A", "A < (B or C)", fails(loop()), true},
		{"a : A;b : C;(a, b) : r", "A < B", fails(loop()), true},
		{"a : A", "A < B", task.Verdict{Known: true, Holds: true, Counter: loop()}, false},
		{"a : A", "A < B", task.Verdict{Counter: loop()}, false},
		{"a : A", "A < A", fails(loop()), false},
		{"a : A", "B < A", fails(loop()), false},
		{"a : C", "A < B", fails(loop()), false},
		{"A < B", "A < B", fails(api.Interp{}), false},
		{"a : A", "A < B", fails(api.Interp{}), false},
		{"a : A", "A < B", fails(without()), false},
		{"A < all r A", "A < B", fails(loop()), false},

		{"A < B;a : A", "a : B", holds(cases(0)), true},
		{"A < B;a : A", "a : B", holds(cases(1)), false},
		{"A < B;b : A", "b : B", holds(cases(1)), true},
		{"A < B;b : A", "a : B", holds(cases(1)), false},
		{"A < B;b : A", "b : C", holds(cases(1)), false},
		{"A < B;b : A", "b : B", holds(split(1)), false},
		{"A < B;a : A", "a : B", task.Verdict{Known: true, Proof: cases(0)}, false},
		{"A < B;a : A", "a : B", task.Verdict{Proof: cases(0)}, false},
		{"", "a : B", fails(without()), true},
		{"", "b : not C", fails(without()), true},
		{"b : C", "b : (A or B)", fails(without()), true},
		{"", "a : A", fails(without()), false},
		{"", "b : C", fails(without()), false},
		{"b : A", "a : B", fails(without()), false},
		{"", "a : B", fails(loop()), false},
		{"", "a : B", task.Verdict{Known: true, Holds: true, Counter: without()}, false},
	} {
		expectRight(t, c.axioms, c.line, c.v, c.want)
	}
}

// P9.3: what is not needed must be a zero value.
func TestRightZeroValues(t *testing.T) {
	expectRight(t, "A < B;a : A", "a : B", task.Verdict{Known: true, Holds: true, Proof: cases(0)}, true)
	for _, change := range models() {
		v := task.Verdict{Known: true, Holds: true, Proof: cases(0)}
		change(&v.Counter)
		expectRight(t, "A < B;a : A", "a : B", v, false)
		v.Proof = split(2)
		expectRight(t, "A < B", "A < B", v, false)
	}
	expectRight(t, "", "a : B", task.Verdict{Known: true, Counter: without()}, true)
	for _, change := range proofs() {
		v := task.Verdict{Known: true, Counter: without()}
		change(&v.Proof)
		expectRight(t, "", "a : B", v, false)
		v.Counter = loop()
		expectRight(t, "", "A < B", v, false)
	}

	empty := task.Verdict{Counter: api.Interp{Concepts: [][]int{}, Roles: [][][2]int{}, Inds: []int{}}, Proof: api.Proof{Concept: api.Concept{Args: []api.Concept{}}, Subs: []api.Proof{}}}
	for _, line := range []string{"A < B", "role r < s", "a : B", "(a, b) : r"} {
		expectRight(t, "", line, empty, true)
	}
	v := task.Verdict{Known: true, Holds: true, Counter: empty.Counter, Proof: cases(0)}
	expectRight(t, "A < B;a : A", "a : B", v, true)
	v = task.Verdict{Known: true, Counter: loop(), Proof: empty.Proof}
	expectRight(t, "", "A < B", v, true)
}

// P9.3: verdicts that are not known, for all kinds of axioms.
func TestRightUnknown(t *testing.T) {
	for _, axioms := range []string{"", "A < B;a : A;role r < s;(a, b) : r", "a : bot"} {
		for _, line := range []string{"A < B", "C < A", "role r < s", "role s < r", "a : B", "b : C", "(a, b) : r", "(b, a) : r"} {
			expectRight(t, axioms, line, task.Verdict{}, true)
			expectRight(t, axioms, line, task.Verdict{Holds: true}, false)
			for _, change := range models() {
				v := task.Verdict{}
				change(&v.Counter)
				expectRight(t, axioms, line, v, false)
			}
			for _, change := range proofs() {
				v := task.Verdict{}
				change(&v.Proof)
				expectRight(t, axioms, line, v, false)
				v.Holds = true
				expectRight(t, axioms, line, v, false)
			}
		}
	}
}

// P9.3: verdicts for role inclusions and links have no evidence, so that what
// they say is not judged.
func TestRightWithoutEvidence(t *testing.T) {
	for _, axioms := range []string{"", "role r < s;(a, b) : r", "a : bot"} {
		for _, line := range []string{"role r < s", "role s < r", "(a, b) : r", "(b, a) : s"} {
			for _, v := range []task.Verdict{{Known: true}, {Known: true, Holds: true}} {
				expectRight(t, axioms, line, v, true)
				for _, change := range models() {
					w := v
					change(&w.Counter)
					expectRight(t, axioms, line, w, false)
				}
				for _, change := range proofs() {
					w := v
					change(&w.Proof)
					expectRight(t, axioms, line, w, false)
				}
			}
		}
	}
}

// P9.3: the evidence for one axiom judged as that for another one.
func TestEvidenceOfOthers(t *testing.T) {
	const axioms = "A < B;B < C;a : A;(a, b) : r;role r < s;B < all s C"
	lines := []string{"A < B", "A < C", "B < A", "C < A", "a : B", "a : C", "b : C", "b : A", "a : not A", "B < some r A"}
	for _, from := range lines {
		v := asked(t, based(axioms), said(from), api.MaxSteps)
		for _, to := range lines {
			right, e := task.Right(based(axioms), said(to), v)
			test := tested(based(axioms), said(to))
			expect(t, from+" for "+to, right, e, shows(test, v), api.OK)
		}
	}
}
