package task_test

import (
	"fmt"
	"math"
	"testing"

	"isagoge/api"
	"isagoge/task"
)

// expectErrors checks the error of all functions with an axiom, with verdicts
// and numbers of steps of all sorts.
func expectErrors(t *testing.T, label string, b api.Base, x api.Axiom, want api.Errno) {
	t.Helper()
	test, e := task.Test(b, x)
	expect(t, label+": Test", test, e, api.Base{}, want)
	for _, steps := range append(farNumbers(), 0, 1, api.MaxSteps) {
		v, e := task.Entails(b, x, steps)
		expect(t, fmt.Sprint(label, ": Entails with steps ", steps), v, e, task.Verdict{}, want)
	}
	for _, v := range []task.Verdict{{}, {Known: true}, {Known: true, Holds: true}, {Holds: true}, {Known: true, Counter: loop()}, {Known: true, Holds: true, Proof: cases(2)}} {
		right, e := task.Right(b, x, v)
		expect(t, fmt.Sprint(label, ": Right of ", shown(v)), right, e, false, want)
	}
}

// fields are changes of single fields of an axiom, with the kind that has them.
func fields() map[string]func(x *api.Axiom) {
	return map[string]func(x *api.Axiom){
		"0 Sub.Op":       func(x *api.Axiom) { x.Incl.Sub.Op = api.CTop },
		"0 Sub.N":        func(x *api.Axiom) { x.Incl.Sub.N = 1 },
		"0 Sub.Args":     func(x *api.Axiom) { x.Incl.Sub.Args = make([]api.Concept, 1) },
		"0 Super.Op":     func(x *api.Axiom) { x.Incl.Super.Op = api.CBot },
		"0 Super.N":      func(x *api.Axiom) { x.Incl.Super.N = -1 },
		"0 Super.Args":   func(x *api.Axiom) { x.Incl.Super.Args = make([]api.Concept, 2) },
		"1 Sub":          func(x *api.Axiom) { x.Role.Sub = 1 },
		"1 Super":        func(x *api.Axiom) { x.Role.Super = 1 },
		"2 Ind":          func(x *api.Axiom) { x.Fact.Ind = 1 },
		"2 Concept.Op":   func(x *api.Axiom) { x.Fact.Concept.Op = api.CTop },
		"2 Concept.N":    func(x *api.Axiom) { x.Fact.Concept.N = 1 },
		"2 Concept.Args": func(x *api.Axiom) { x.Fact.Concept.Args = make([]api.Concept, 1) },
		"3 Role":         func(x *api.Axiom) { x.Link.Role = 1 },
		"3 From":         func(x *api.Axiom) { x.Link.From = -1 },
		"3 To":           func(x *api.Axiom) { x.Link.To = 1 },
	}
}

// samples are axioms of all kinds, some of which are entailed by one of bases.
func samples() []api.Axiom {
	return []api.Axiom{said("A < (B or C)"), said("A < A"), said("role s < t-"), said("role r < r"), said("b : not A"), said("a : A"), said("(b, a) : s"), said("(a, a) : r"), {}, {Kind: api.ARole}, {Kind: api.AFact}, {Kind: api.ALink}}
}

func bases() []api.Base {
	return []api.Base{based(""), based("A < B;role s < t-;b : not A;(b, a) : s"), based("a : bot")}
}

// Axioms whose other fields are no zero values.
func TestOtherFields(t *testing.T) {
	for _, b := range bases() {
		for _, x := range samples() {
			asked(t, b, x, api.MaxSteps)
			for label, change := range fields() {
				if int(label[0]-'0') == x.Kind {
					continue
				}
				y := x
				change(&y)
				expectErrors(t, label, b, y, api.ErrArg)
			}
		}
	}
}

// Other fields may be empty slices that are not nil.
func TestEmptyFields(t *testing.T) {
	empty := api.Concept{Args: []api.Concept{}}
	for _, b := range bases() {
		for _, x := range []api.Axiom{
			{Kind: api.ARole, Role: api.RoleIncl{Sub: 2, Super: 5}, Incl: api.Incl{Sub: empty, Super: empty}, Fact: api.Fact{Concept: empty}},
			{Kind: api.AFact, Fact: api.Fact{Ind: 1, Concept: empty}, Incl: api.Incl{Sub: empty, Super: empty}},
			{Kind: api.ALink, Link: api.Link{Role: 1, From: 1}, Incl: api.Incl{Sub: empty}, Fact: api.Fact{Concept: empty}},
			{Kind: api.AIncl, Incl: api.Incl{Sub: empty, Super: api.Concept{N: 1, Args: []api.Concept{}}}, Fact: api.Fact{Concept: empty}},
		} {
			asked(t, b, x, api.MaxSteps)
		}
	}
}

// Axioms of no kind.
func TestNoKind(t *testing.T) {
	for _, b := range bases() {
		for _, kind := range []int{math.MinInt, -1, 4, 5, 1 << 32, math.MaxInt} {
			for _, x := range samples() {
				x.Kind = kind
				expectErrors(t, shown(x), b, x, api.ErrArg)
			}
			expectErrors(t, shown(kind), b, api.Axiom{Kind: kind}, api.ErrArg)
		}
	}
}

// Axioms whose field is that of another kind.
func TestFieldOfOtherKind(t *testing.T) {
	for _, x := range samples()[:8] {
		if shown(x) == shown(api.Axiom{Kind: x.Kind}) {
			continue
		}
		for kind := range 4 {
			if y := x; kind != x.Kind {
				y.Kind = kind
				expectErrors(t, shown(y), based("A < B"), y, api.ErrArg)
			}
		}
	}
}

// Axioms with numbers of names that do not exist.
func TestNumbersOutOfRange(t *testing.T) {
	for k, change := range []func(x *api.Axiom, n int){
		func(x *api.Axiom, n int) { *x = inclusion(name(n), top()) },
		func(x *api.Axiom, n int) { *x = inclusion(top(), name(n)) },
		func(x *api.Axiom, n int) { *x = fact(0, name(n)) },
		func(x *api.Axiom, n int) { *x = fact(n, top()) },
		func(x *api.Axiom, n int) { *x = api.Axiom{Kind: api.ALink, Link: api.Link{From: n}} },
		func(x *api.Axiom, n int) { *x = api.Axiom{Kind: api.ALink, Link: api.Link{To: n}} },
		func(x *api.Axiom, n int) { *x = api.Axiom{Kind: api.ALink, Link: api.Link{Role: n}} },
		func(x *api.Axiom, n int) { *x = api.Axiom{Kind: api.ARole, Role: api.RoleIncl{Sub: n}} },
		func(x *api.Axiom, n int) { *x = api.Axiom{Kind: api.ARole, Role: api.RoleIncl{Super: n}} },
		func(x *api.Axiom, n int) { *x = inclusion(all(n, top()), top()) },
		func(x *api.Axiom, n int) { *x = fact(1, not(all(n, top()))) },
	} {
		limit := []int{3, 3, 3, 2, 2, 2, 3, 6, 6, 6, 6}[k]
		for _, n := range []int{math.MinInt, -1, 0, limit - 1, limit, limit + 1, math.MaxInt} {
			var x api.Axiom
			change(&x, n)
			if 0 <= n && n < limit {
				asked(t, based(""), x, api.MaxSteps)
			} else {
				expectErrors(t, shown(x), based(""), x, api.ErrArg)
			}
		}
	}
	for _, x := range []api.Axiom{{}, {Kind: api.ARole}, {Kind: api.AFact}, {Kind: api.ALink}} {
		expectErrors(t, shown(x), api.Base{}, x, api.ErrArg)
	}
	expectErrors(t, "no individuals", parsed("concept A;role r"), api.Axiom{Kind: api.AFact}, api.ErrArg)
	expectErrors(t, "no individuals", parsed("concept A;role r"), api.Axiom{Kind: api.ALink}, api.ErrArg)
	expectErrors(t, "no roles", parsed("concept A;ind a"), api.Axiom{Kind: api.ALink}, api.ErrArg)
}

// Axioms with concepts that are not valid; each on its own has at most MaxNodes
// nodes.
func TestWrongConcepts(t *testing.T) {
	for _, c := range []api.Concept{
		nodes(401), nodes(1001), nested(21), nested(1000), {Op: 8}, {Op: -1}, {Op: api.CNot}, {Op: api.CTop, N: 1}, {Op: api.CAnd, Args: make([]api.Concept, 1)}, {Args: make([]api.Concept, 1)}, not(api.Concept{Op: api.CBot, N: 2}),
	} {
		for _, x := range []api.Axiom{inclusion(c, name(0)), inclusion(name(0), c), inclusion(c, c), inclusion(nodes(400), c), fact(0, c)} {
			for _, b := range append(bases(), sized(60, 0, 0, 0)) {
				expectErrors(t, fmt.Sprintf("%.100s", shown(x)), b, x, api.ErrArg)
			}
		}
	}
	for _, x := range []api.Axiom{inclusion(nodes(400), nodes(400)), inclusion(nested(20), nested(20)), fact(0, nodes(400)), fact(0, nested(20))} {
		expectSizeError(t, fmt.Sprintf("%.100s", shown(x)), based(""), x, api.ErrLarge)
	}
}

// P9.2: numbers of steps that are out of range, also where the test is too large.
func TestSteps(t *testing.T) {
	for _, b := range append(bases(), sized(60, 0, 0, 0)) {
		for _, x := range append(samples(), inclusion(nodes(400), nodes(400))) {
			for _, steps := range farNumbers() {
				v, e := task.Entails(b, x, steps)
				expect(t, fmt.Sprint(shown(x), ", steps ", steps), v, e, task.Verdict{}, api.ErrArg)
			}
		}
	}
}

// R1, R2: knowledge bases that are not valid, before all other errors.
func TestWrongBases(t *testing.T) {
	for k, b := range wrongBases() {
		for _, x := range append(samples(), api.Axiom{Kind: 4}, fact(7, top()), inclusion(nodes(400), nodes(401))) {
			expectErrors(t, fmt.Sprint("base ", k, ", ", shown(x)), b, x, api.ErrBase)
		}
		for _, i := range []int{math.MinInt, -1, 0, 1, 4, 5, math.MaxInt} {
			x, e := task.Axiom(b, i)
			expect(t, fmt.Sprint("base ", k, ", axiom ", i), x, e, api.Axiom{}, api.ErrBase)
		}
	}
}
