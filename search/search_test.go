package search_test

import (
	"fmt"
	"testing"

	"isagoge/api"
	"isagoge/proof"
	"isagoge/types"
)

// family are the lines of the first example of DOC.md.
const family = "concept Human;concept Robot;role parent;role mother;ind eve;ind ann;Human < some parent Human;Human < not Robot;role mother < parent;eve : Human;(eve, ann) : mother"

// P8.1: the examples of the chapter and of DOC.md.
func TestExamples(t *testing.T) {
	expectVerdict(t, based("A < B;a : A;a : not B"), api.MaxSteps, false)
	expectVerdict(t, parsed(family), api.MaxSteps, true)
	expectVerdict(t, parsed(family+";ann : all parent- Robot"), api.MaxSteps, false)
	expectVerdict(t, parsed("concept Cat;concept Mouse;concept Hunter;role hunts;ind x0;Cat < some hunts Mouse;some hunts top < Hunter;x0 : (Cat and not Hunter)"), api.MaxSteps, false)
	expectVerdict(t, parsed("concept Cat;concept Mouse;concept Hunter;role hunts;ind x0;Cat < some hunts Mouse;some hunts top < Hunter;x0 : (Hunter and not Cat)"), api.MaxSteps, true)
}

// inconsistent are axioms over the declared names that have no model together:
// at most three, with at most 12 nodes of concepts. All rules are needed, with
// roles in all directions.
func inconsistent() []string {
	return []string{
		"a : bot", "b : bot", "b : not top", "a : (A and not A)", "a : A;a : not A", "b : not (A or not A)", "a : not not bot",
		"a : some r bot", "b : some t- (A and not A)", "a : some r some s- bot", "a : (bot or (A and not A))", "a : ((A or B) and (not A and not B))",
		"top < bot", "top < A;A < bot", "top < A;top < not A", "A < bot;not A < bot", "A < not A;not A < A", "top < some r bot", "top < some r A;A < bot", "top < (A and bot)",
		"top < some r A;some r A < bot", "top < some r- A;top < all r not top", "top < some r A;top < all r- B;B < bot", "A < B;a : A;a : not B", "A < bot;b : A", "A < bot;a : some r A", "A < bot;a : (A or A)",
		"A < some r B;B < all r- not A;a : A", "A < all r A;a : A;a : some r not A", "A < all r- not A;a : A;(a, a) : r", "A < all r A;a : A;b : (not A and some r- A)",
		"(a, b) : r;a : all r bot", "(a, b) : r;b : all r- bot", "(a, b) : r;a : all r A;b : not A", "(a, a) : r;a : all r- bot", "(a, b) : t;b : all t- A;a : not A", "(a, b) : r;some r top < bot", "(a, b) : r;top < all r- bot",
		"role r < s;a : some r A;a : all s not A", "role r < s-;a : some r all s bot", "role r < r-;a : (A and some r all r not A)", "role r- < s;(a, b) : r;b : all s bot", "role r < s;(a, b) : r;a : all s bot", "role r < s;(a, b) : r;b : all s- bot", "role r < s;a : some r- all s bot",
		"a : (some r A and all r not A)", "a : some r (A and all r- B);a : not B", "a : (A and some r some r- all r bot)", "a : all r (A and B);a : some r not A",
		"top < some r some s top;some s- top < bot", "top < some r all r- bot", "A < some r A;some r- A < not A;a : A", "a : (some r A and (some r not A and all r bot))", "not some r top < bot;top < all r bot",
		"A < (B or C);a : (A and not B);a : not C", "(A or B) < C;a : (A and not C)", "top < (A or B);a : (not A and not B)", "all r A < bot;top < all r B;B < A", "some r top < bot;all r bot < bot", "all r all r A < bot;top < A",
	}
}

// consistent are axioms over the declared names that have a model together.
func consistent() []string {
	return []string{
		"", "a : A", "a : A;b : not A", "a : (A or bot)", "a : some r some s A;a : all r not A", "top < some r top", "top < (A or B);top < (not A or not B)", "A < bot", "A < some r bot",
		"A < not A", "top < some r A;A < some r- not A", "A < B;B < C;C < A;a : A", "(a, b) : r;a : all r A;b : all r- not A", "(a, a) : r;a : all r A", "role r < s;(a, b) : s;a : all r bot", "role r < r-;(a, b) : r;b : all r A",
		"role r < s-;a : some r A;a : all s bot", "A < some r (A and B);A < all r- B;a : A", "top < some s- top;some s some r C < B", "a : (some r A and (some r not A and all r B))", "A < all r A;a : A;b : not A;(b, a) : r", "some r A < B;a : (not B and some r B)",
	}
}

// P8.1, P8.4: small knowledge bases with all rules.
func TestSmall(t *testing.T) {
	for _, axioms := range inconsistent() {
		b := based(axioms)
		if count := len(b.Incls) + len(b.Roles) + len(b.Facts) + len(b.Links); count > 3 {
			t.Errorf("%s: %d axioms", axioms, count)
		}
		expectVerdict(t, b, api.MaxSteps, false)
	}
	for _, axioms := range consistent() {
		expectVerdict(t, based(axioms), api.MaxSteps, true)
	}
}

// P8.1: without individuals, facts or names.
func TestNothing(t *testing.T) {
	for _, lines := range []string{"", "concept A", "role r", "ind a", "concept A;role r;A < some r A", "concept A;A < bot", "role r;top < some r top", "role r;role r < r-"} {
		for _, steps := range []int{0, 1, api.MaxSteps} {
			expectVerdict(t, parsed(lines), steps, true)
		}
	}
	for _, lines := range []string{"top < bot", "ind a;ind b;a : bot", "concept A;top < A;A < bot", "role r;top < some r bot", "role r;top < some r all r- bot"} {
		expectVerdict(t, parsed(lines), api.MaxSteps, false)
	}
}

// P8.1: the answer is known with any number of steps if there is a type model.
func TestTypeModels(t *testing.T) {
	for _, axioms := range consistent() {
		b := based(axioms)
		if _, e := types.Model(b, nil); e != api.OK {
			t.Errorf("%s: error %d", axioms, e)
		}
		for _, steps := range []int{0, 1, 2, 10, 100, api.MaxSteps - 1, api.MaxSteps} {
			expectVerdict(t, b, steps, true)
		}
	}
	for steps := range 2000 {
		expectVerdict(t, based("a : some r A;(a, b) : s;A < B"), 10*steps, true)
	}
}

// many are axioms over the declared names whose marks are too many for the type
// model, without a consequence for the other ones.
const many = ";some r some r- some r some r- some t B < some t some t- some t some t- some t A"

// P8.1: marks that are too many for the type model.
func TestManyMarks(t *testing.T) {
	for _, axioms := range inconsistent() {
		expectVerdict(t, based(axioms+many), api.MaxSteps, false)
	}
	for _, axioms := range consistent() {
		b := based(axioms + many)
		if _, e := types.Consistent(b); e != api.ErrSpace {
			t.Errorf("%s: error %d", axioms, e)
		}
		expectVerdict(t, b, api.MaxSteps, true)
	}
}

// P8.1: without steps nothing is searched.
func TestNoSteps(t *testing.T) {
	for _, axioms := range append(inconsistent(), "a : A"+many) {
		if a := asked(t, based(axioms), 0); a.Known {
			t.Errorf("%s: known", axioms)
		}
	}
}

// P8.1, P8.5: what is known with some steps is known with more, with the same
// verdict.
func TestMoreSteps(t *testing.T) {
	bases := []api.Base{
		based("A < B;a : A;a : not B"), parsed(family + ";ann : all parent- Robot"), based("a : A" + many), based("top < some r A;A < some r- not A" + many),
		pigeons(3, 2).base(""), pigeons(4, 3).base(""), pigeons(4, 4).base(""), coloring(4, 5).base(""), coloring(9, 9).base(""),
		counter(4).base("a : " + number(4, 0) + ";top < some r top"), counter(4).base("a : " + number(4, 0) + ";top < some r top;C4 < bot"),
	}
	for _, b := range bases {
		expectMonotone(t, b, true)
	}
	expectMonotone(t, coloring(7, 9).base(""), false)
}

// expectMonotone checks the answers for b with growing numbers of steps, and
// whether the last one is known.
func expectMonotone(t *testing.T, b api.Base, known bool) {
	t.Helper()
	var before api.Answer
	for steps := 0; steps <= api.MaxSteps; steps += 1 + steps/4 {
		a := asked(t, b, steps)
		if before.Known && (!a.Known || a.Consistent != before.Consistent) {
			t.Errorf("%.700s, %d steps: known: %v, consistent: %v", text(b), steps, a.Known, a.Consistent)
		}
		before = a
	}
	a := asked(t, b, api.MaxSteps)
	if a.Known != known || before.Known && !a.Known {
		t.Errorf("%.700s: known: %v", text(b), a.Known)
	}
}

// P8.1: models with very many elements, of which none can be left out, and
// searches for models that are too large for an interpretation.
func TestLargeModels(t *testing.T) {
	for _, c := range []struct {
		bits, last int
	}{{3, 7}, {6, 63}, {7, 100}, {7, 127}} {
		b := counter(c.bits).base("a : " + number(c.bits, 0) + ";not " + number(c.bits, c.last) + " < some r top")
		a := expectVerdict(t, b, api.MaxSteps, true)
		if a.Model.Size <= c.last {
			t.Errorf("%d elements, not %d", a.Model.Size, c.last+1)
		}
	}

	// P and Q divide the elements into two or three chains of 100 or 128 elements.
	zero := ";not " + number(7, 99) + " < some r top;a : (P and " + number(7, 0) + ");b : (not P and " + number(7, 0) + ")"
	a := expectVerdict(t, counter(7).base(zero+";top < Q"), api.MaxSteps, true)
	if a.Model.Size < api.MaxElems {
		t.Errorf("%d elements, not %d", a.Model.Size, api.MaxElems)
	}
	more := ";top < some r top;a : (P and Q);b : (P and not Q);c : not P"
	for _, steps := range []int{0, 1, 1000, api.MaxSteps} {
		if a := asked(t, counter(7).base(more), steps); a.Known {
			t.Errorf("%d steps: %d elements", steps, a.Model.Size)
		}
	}
}

// P8.1: proofs that are almost too large or too high.
func TestLargeProofs(t *testing.T) {
	for _, c := range []struct {
		label        string
		b            api.Base
		size, height int
	}{
		{"counter", counter(5).base("a : " + number(5, 0) + ";top < some r top;C5 < bot"), 1000, 300},
		{"counter", counter(7).base("a : " + number(7, 40) + ";top < some r top;C7 < bot"), 1000, api.MaxHeight * 3 / 4},
		{"coloring", coloring(5, 6).base(""), 5000, 20},
		{"coloring", coloring(6, 7).base("v0 : (C0 or C1);v1 : not C1"), api.MaxProof * 3 / 4, 20},
		{"pigeons", pigeons(5, 3).base(""), 100, 10},
		{"chain", chain("some r bot").base(""), api.MaxElems, api.MaxElems},
		{"wide", wide().base("K < bot"), 10, 10},
		{"choices", choices(8).base(""), 1000, 20},
	} {
		a := expectVerdict(t, c.b, api.MaxSteps, false)
		size, height := proof.Size(a.Proof)
		if size < c.size || height < c.height {
			t.Errorf("%s: size %d, height %d", c.label, size, height)
		}
	}
}

// P8.1: proofs that would be too large, too high, or about too many nodes.
func TestTooLargeProofs(t *testing.T) {
	for _, b := range []api.Base{
		coloring(6, 7).base("v0 : (C0 or C1)"), coloring(9, 10).base(""),
		counter(7).base("a : " + number(7, 20) + ";top < some r top;C7 < bot"),
		chain("some r some r bot").base(""),
	} {
		for _, steps := range []int{1, api.MaxSteps} {
			if a := asked(t, b, steps); a.Known {
				t.Errorf("%.700s, %d steps: consistent: %v", text(b), steps, a.Consistent)
			}
		}
	}
	// Each element has two kinds of successors that are alike, so that proofs are
	// twice as large with each of them.
	double := func(bits int) api.Base {
		return counter(bits).base("role s;role s < r;a : " + number(bits, 0) + ";a : Q;top < (some r top or some s top);C" + fmt.Sprint(bits) + " < bot")
	}
	expectVerdict(t, double(3), api.MaxSteps, false)
	for bits := 4; bits <= 6; bits++ {
		if a := asked(t, double(bits), api.MaxSteps); a.Known {
			t.Errorf("%d bits: consistent: %v", bits, a.Consistent)
		}
	}
	for _, end := range []string{"some r top", "some r some r top", "top"} {
		expectVerdict(t, chain(end).base(""), api.MaxSteps, true)
	}
}

// P8.1: what refutes one node does not refute others like it if it depends on
// their neighbors.
func TestRefutedNodes(t *testing.T) {
	twice := func(c string) string { return "(" + c + " or (" + c + " and " + c + "))" }
	for _, axioms := range []string{
		"a : not A;a : (some r " + twice("all r- A") + " or C);b : A;b : some r " + twice("all r- A"),
		"D < D;(a, b) : r;a : D;a : (" + twice("all r bot") + " or C);c : D;c : ((A and " + twice("all r bot") + ") or some s bot)",
		"D < D;(b, a) : r;a : D;a : (" + twice("all r- bot") + " or C);c : D;c : ((A and " + twice("all r- bot") + ") or some s bot)",
	} {
		b := parsed(declared + "concept D;ind c;" + axioms + many)
		expectVerdict(t, b, api.MaxSteps, true)
		expectVerdict(t, parsed(declared+"concept D;ind c;"+axioms+";a : not C"), api.MaxSteps, false)
	}
}
