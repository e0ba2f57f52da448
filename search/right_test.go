package search_test

import (
	"fmt"
	"slices"
	"testing"

	"isagoge/api"
	"isagoge/search"
)

// expectRight checks what Right reports.
func expectRight(t *testing.T, label string, b api.Base, a api.Answer, want bool) {
	t.Helper()
	got, e := search.Right(b, a)
	expect(t, label+": "+shown(a), got, e, want, api.OK)
}

// models are changes that make an interpretation that is a zero value something
// else.
func models() []func(i *api.Interp) {
	return []func(i *api.Interp){
		func(i *api.Interp) { i.Size = 1 },
		func(i *api.Interp) { i.Size = -1 },
		func(i *api.Interp) { i.Concepts = make([][]int, 1) },
		func(i *api.Interp) { i.Roles = make([][][2]int, 3) },
		func(i *api.Interp) { i.Inds = []int{0} },
		func(i *api.Interp) {
			*i = api.Interp{Size: 1, Concepts: make([][]int, 3), Roles: make([][][2]int, 3), Inds: []int{0, 0}}
		},
	}
}

// proofs are changes that make a proof that is a zero value something else.
func proofs() []func(p *api.Proof) {
	return []func(p *api.Proof){
		func(p *api.Proof) { p.Rule = api.RAnd },
		func(p *api.Proof) { p.Rule = -1 },
		func(p *api.Proof) { p.X = 1 },
		func(p *api.Proof) { p.Y = 1 },
		func(p *api.Proof) { p.N = 1 },
		func(p *api.Proof) { p.Concept.Op = api.CBot },
		func(p *api.Proof) { p.Concept.N = 1 },
		func(p *api.Proof) { p.Concept.Args = make([]api.Concept, 1) },
		func(p *api.Proof) { p.Subs = make([]api.Proof, 1) },
		func(p *api.Proof) { *p = rClash(0, "bot") },
		func(p *api.Proof) { *p = rIncl(0, 0, rClash(0, "A")) },
	}
}

// The knowledge bases of the following tests, of which one has models, and
// another one none.
func good() api.Base { return based("A < B;a : A;b : (A or some r B)") }
func bad() api.Base  { return based("A < B;a : A;a : not B") }

// fitting returns a right answer for good, and broken one for bad.
func fitting() api.Answer {
	return api.Answer{Known: true, Consistent: true, Model: api.Interp{Size: 2, Concepts: [][]int{{0}, {0, 1}, nil}, Roles: [][][2]int{{{1, 0}}, nil, {{1, 1}}}, Inds: []int{0, 1}}}
}

func broken() api.Answer {
	return api.Answer{Known: true, Proof: rIncl(0, 0, rOr(0, "(not A or B)", rClash(0, "A"), rClash(0, "B")))}
}

// P8.2: what is not needed must be a zero value.
func TestRightZeroValues(t *testing.T) {
	for _, b := range []api.Base{good(), bad(), based("")} {
		expectRight(t, "unknown", b, api.Answer{}, true)
		expectRight(t, "unknown", b, api.Answer{Consistent: true}, false)
		expectRight(t, "unknown", b, api.Answer{Model: fitting().Model}, false)
		expectRight(t, "unknown", b, api.Answer{Consistent: true, Model: fitting().Model}, false)
		expectRight(t, "unknown", b, api.Answer{Proof: broken().Proof}, false)
		empty := api.Answer{Model: api.Interp{Concepts: [][]int{}, Roles: [][][2]int{}, Inds: []int{}}, Proof: api.Proof{Concept: api.Concept{Args: []api.Concept{}}, Subs: []api.Proof{}}}
		expectRight(t, "unknown, with empty slices", b, empty, true)
	}
	expectRight(t, "consistent", good(), fitting(), true)
	expectRight(t, "inconsistent", bad(), broken(), true)
	for k, change := range models() {
		label := fmt.Sprint("model ", k)
		a, unknown := broken(), api.Answer{}
		change(&a.Model)
		change(&unknown.Model)
		expectRight(t, label, bad(), a, false)
		expectRight(t, label, bad(), unknown, false)
		expectRight(t, label, good(), unknown, false)
	}
	for k, change := range proofs() {
		label := fmt.Sprint("proof ", k)
		a, unknown := fitting(), api.Answer{}
		change(&a.Proof)
		change(&unknown.Proof)
		expectRight(t, label, good(), a, false)
		expectRight(t, label, bad(), unknown, false)
		expectRight(t, label, good(), unknown, false)
	}

	a := fitting()
	a.Proof = api.Proof{Concept: api.Concept{Args: []api.Concept{}}, Subs: []api.Proof{}}
	expectRight(t, "empty slices", good(), a, true)
	a = broken()
	a.Model = api.Interp{Concepts: [][]int{}, Roles: [][][2]int{}, Inds: []int{}}
	expectRight(t, "empty slices", bad(), a, true)
}

// P8.2: answers are judged by the model or the proof that they need.
func TestRight(t *testing.T) {
	both := fitting()
	both.Proof = broken().Proof
	expectRight(t, "both", good(), both, false)
	expectRight(t, "both", bad(), both, false)
	both.Consistent = false
	expectRight(t, "both", good(), both, false)
	expectRight(t, "both", bad(), both, false)

	expectRight(t, "no model", good(), api.Answer{Known: true, Consistent: true}, false)
	expectRight(t, "no proof", bad(), api.Answer{Known: true}, false)
	expectRight(t, "the model of another one", bad(), fitting(), false)
	expectRight(t, "the model of another one", based("A < B;a : A;b : C"), fitting(), false)
	expectRight(t, "a model of another one, too", based("A < B;a : A;(b, b) : t;role r < t-"), fitting(), false)
	expectRight(t, "a model of another one, too", based("A < B;a : A;(b, b) : t;B < some t B;b : some r A"), fitting(), false)
	expectRight(t, "a model of another one, too", based("A < B;a : A;(b, b) : t;b : some r A"), fitting(), true)
	expectRight(t, "other names", parsed("concept A;ind a"), fitting(), false)
	expectRight(t, "the proof of another one", good(), broken(), false)
	expectRight(t, "the proof of another one", based("A < B;a : A;b : not B"), broken(), false)
	expectRight(t, "a proof of another one, too", based("A < B;a : A;a : not B;b : C;top < C"), broken(), true)
	expectRight(t, "inclusions in another order", based("top < C;A < B;a : A;a : not B"), broken(), false)

	// The verdict is wrong, or there are two reasons.
	a := fitting()
	a.Consistent = false
	expectRight(t, "a model that says inconsistent", good(), a, false)
	a = broken()
	a.Consistent = true
	expectRight(t, "a proof that says consistent", bad(), a, false)
	for _, a := range []api.Answer{fitting(), broken()} {
		a.Known = false
		expectRight(t, "not known", good(), a, false)
		expectRight(t, "not known", bad(), a, false)
	}
}

// P8.2: models and proofs with small changes.
func TestRightChanges(t *testing.T) {
	for k, change := range []func(i *api.Interp){
		func(i *api.Interp) { i.Size = 0 },
		func(i *api.Interp) { i.Size = 1 },
		func(i *api.Interp) { i.Concepts[0] = nil },
		func(i *api.Interp) { i.Concepts[0] = []int{0, 1}; i.Concepts[1] = []int{0} },
		func(i *api.Interp) { i.Concepts[1] = []int{1, 0} },
		func(i *api.Interp) { i.Concepts[1] = []int{0, 1, 2} },
		func(i *api.Interp) { i.Concepts = i.Concepts[:2] },
		func(i *api.Interp) { i.Roles[0] = nil },
		func(i *api.Interp) { i.Roles = append(i.Roles, nil) },
		func(i *api.Interp) { i.Inds = []int{1, 0} },
		func(i *api.Interp) { i.Inds = []int{0} },
		func(i *api.Interp) { i.Inds = []int{0, 2} },
	} {
		a := fitting()
		change(&a.Model)
		expectRight(t, fmt.Sprint("model ", k), good(), a, false)
	}
	for k, change := range []func(p *api.Proof){
		func(p *api.Proof) { p.X = 1 },
		func(p *api.Proof) { p.N = 1 },
		func(p *api.Proof) { p.Y = 1 },
		func(p *api.Proof) { p.Subs = nil },
		func(p *api.Proof) { p.Subs[0].Subs = p.Subs[0].Subs[:1] },
		func(p *api.Proof) { slices.Reverse(p.Subs[0].Subs) },
		func(p *api.Proof) { p.Subs[0].Subs[1] = rClash(0, "A") },
		func(p *api.Proof) { *p = rClash(0, "A") },
	} {
		a := broken()
		change(&a.Proof)
		expectRight(t, fmt.Sprint("proof ", k), bad(), a, false)
	}
}

// P8.2: models and proofs at and beyond the limits of their chapters.
func TestRightLimits(t *testing.T) {
	for _, size := range []int{2, api.MaxElems + 1, api.MaxDomain, api.MaxDomain + 1, 1 << 40} {
		a := fitting()
		a.Model.Size = size
		expectRight(t, fmt.Sprint(size, " elements"), good(), a, size <= api.MaxDomain)
	}
	for _, height := range []int{4, api.MaxHeight, api.MaxHeight + 1, 30000} {
		a := api.Answer{Known: true, Proof: broken().Proof}
		for range height - 3 {
			a.Proof = rIncl(1, 0, a.Proof)
		}
		got, e := search.Right(bad(), a)
		expect(t, fmt.Sprint("height ", height), got, e, height <= api.MaxHeight, api.OK)
	}
	for _, size := range []int{4, 10001, api.MaxProof - 1, api.MaxProof + 1, 30001} {
		a := api.Answer{Known: true, Proof: leaves(size)}
		got, e := search.Right(based("a : (A or A);a : bot"), a)
		expect(t, fmt.Sprint("size ", size), got, e, size <= api.MaxProof && size%2 == 1, api.OK)
	}
}

// leaves returns a proof with about equally many nodes on both sides of each
// node, for `a : (A or A)` and `a : bot`, if the size is odd.
func leaves(size int) api.Proof {
	if size <= 1 {
		return rClash(0, "bot")
	}
	if size == 2 {
		return rOr(0, "(A or A)", rClash(0, "bot"))
	}
	left := (size-1)/2 | 1
	return rOr(0, "(A or A)", leaves(left), leaves(size-1-left))
}
