package task_test

import (
	"fmt"
	"strings"
	"testing"

	"isagoge/api"
	"isagoge/search"
	"isagoge/task"
)

// A question has axioms, separated by semicolons, that others over the declared
// names entail, and some that they do not.
type question struct {
	axioms, entailed, other string
}

// check asks for all axioms of q, with the most steps and with few, with which
// a verdict may not be known.
func (q question) check(t *testing.T) {
	t.Helper()
	b := based(q.axioms)
	for _, part := range []struct {
		lines string
		holds bool
	}{{q.entailed, true}, {q.other, false}} {
		if part.lines == "" {
			continue
		}
		for _, line := range strings.Split(part.lines, ";") {
			expectVerdict(t, b, said(line), api.MaxSteps, part.holds)
			for _, steps := range []int{0, 1, 2, api.MaxSteps - 1} {
				if v := asked(t, b, said(line), steps); v.Known && v.Holds != part.holds {
					t.Errorf("%s: %s, %d steps: %v", q.axioms, line, steps, v.Holds)
				}
			}
		}
	}
}

// P9.2: the example of the chapter, and that of DOC.md.
func TestExamples(t *testing.T) {
	cats := parsed("concept Cat;concept Mouse;concept Hunter;role hunts;Cat < some hunts Mouse;some hunts top < Hunter")
	expectVerdict(t, cats, over(cats, "Cat < Hunter"), api.MaxSteps, true)
	expectVerdict(t, cats, over(cats, "Hunter < Cat"), api.MaxSteps, false)
	expectVerdict(t, cats, over(cats, "role hunts < hunts-"), api.MaxSteps, false)
	family := parsed("concept Human;concept Robot;role parent;role mother;ind eve;ind ann;Human < some parent Human;Human < not Robot;role mother < parent;eve : Human;(eve, ann) : mother")
	expectVerdict(t, family, over(family, "eve : not Robot"), api.MaxSteps, true)
	expectVerdict(t, family, over(family, "ann : not Robot"), api.MaxSteps, false)
	expectVerdict(t, family, over(family, "(eve, ann) : parent"), api.MaxSteps, true)
	expectVerdict(t, family, over(family, "ann : some parent- Human"), api.MaxSteps, true)
}

// P9.2: inclusions and facts.
func TestInclusionsAndFacts(t *testing.T) {
	for _, q := range []question{
		{"", "A < A;A < top;bot < A;A < (A or B);(A and B) < B;some r A < some r top;all r A < all r (A or B);a : top;a : (A or not A)", "A < B;top < A;A < bot;a : A;b : not A;a : bot;some r top < some r A;all r A < some r A"},
		{"A < B;B < C", "A < C;not C < not A;some r A < some r top;some r A < some r C;(A and not C) < bot", "C < A;B < A;some r A < C;a : A"},
		{"A < B;a : A;b : not B", "a : B;b : not A;a : not not A;A < B", "b : B;a : not B;a : C;b : C;B < A"},
		{"A < some r B;some r top < C", "A < C;B < B;A < some r B", "C < A;B < C;A < some r- B"},
		{"A < all r B;(a, b) : r;a : A", "b : B;a : all r B;some r- A < B", "a : B;b : A;B < A"},
		{"A < all r- B;(b, a) : r;a : A", "b : B;some r A < B", "a : B;some r- A < B"},
		{"role r < s-;(a, b) : r;b : all s A", "a : A;some r B < some s- B;all s- B < all r B", "b : A;some s- B < some r B"},
		{"top < A;A < bot", "a : bot;A < B;b : A;top < bot;a : some r top", ""},
		{"a : A;a : not A", "A < B;B < A;b : bot;top < bot", ""},
		{"a : some r A;top < all r not A", "C < B;b : B", ""},
		{"top < (A or B);A < C;B < C", "top < C;a : C;b : (A or B)", "a : A;b : B;C < A;A < B"},
		{"a : (A or B);a : (A or not B)", "a : A", "a : B;a : not B;b : A"},
		{"a : some r (A and some r- B)", "a : some r some r- B", "a : B;a : some r B"},
		{"A < not A", "A < bot;a : not A;A < B;some r A < B", "top < A;a : bot"},
		{"top < some r A;A < some r- not A", "a : some r A;A < some r A;top < some r some r- not A", "A < bot;a : A;top < not A"},
	} {
		q.check(t)
	}
	question{"A < B;B < C" + many, "A < C;not C < not A;a : (not A or C)", "C < A;a : A;B < A"}.check(t)
	question{"a : A;A < bot" + many, "A < C;b : bot", ""}.check(t)
}

// many are axioms over the declared names whose marks are too many for the type
// model, without a consequence for the other ones: models that are searched may
// have no pairs of a role that could have some.
const many = ";some r some r- some r some r- some t B < some t some t- some t some t- some t A"

// P9.2: role inclusions that hold because of others, because a role has no pairs,
// because nothing has a model, or not at all.
func TestRoleInclusions(t *testing.T) {
	for _, q := range []question{
		{"", "role r < r;role r- < r-;role t < t", "role r < r-;role r- < r;role r < s;role t- < s"},
		{"role r < s", "role r < s;role r- < s-", "role s < r;role r < s-;role r- < s;role s- < r-"},
		{"role r < s-;role s < t", "role r- < s;role r < t-;role r- < t;role s- < t-", "role r < t;role t < r-;role r < r-;role s < s-"},
		{"role r- < r", "role r < r-;role r- < r", "role s < s-;role r < s;role s < r"},
		{"role r < s;role s < r", "role r < s;role s < r;role r- < s-", "role r < s-;role s- < s"},
		{"some r top < bot", "role r < s;role r < r-;role r- < t;role r- < t-", "role s < r;role t- < r;role s < t"},
		{"top < all r- bot", "role r < s;role r- < s", "role s < r"},
		{"role r < s;some s- top < bot", "role r < t;role s < r;role s- < t;role r- < t-", "role t < r;role t- < s"},
		{"some r top < A;some r- top < B;A < all r not B", "role r < s;role r- < s", "role s < r"},
		{"some r top < A;some r- top < B;A < not B", "", "role r < s;role r < r-"},
		{"a : all r bot;b : all r- bot", "", "role r < s;role r- < s"},
		{"(a, b) : r;(b, a) : s", "", "role r < s-;role r < s;role s < r-"},
		{"(a, b) : r;b : all r- bot", "role r < s;role s < r-;role t < t", ""},
		{"top < bot", "role r < s;role s- < r;role t < t", ""},
		{"A < B;a : A;a : not B;role r < s", "role s < r;role r < r-;role r < s", ""},
		{many, "role r < r", "role r < s;role s < r;role t- < s"},
		{"some r top < bot" + many, "role r < s;role r- < t", "role s < r;role s- < r"},
		{"some s- top < bot" + many, "role s < r;role s- < t", "role r < s;role t- < s"},
		{"some s top < A;some s A < bot;some s- B < bot" + many, "role s < s", "role s < r;role s- < r;role s < s-"},
		{"some s top < A;top < all s- not A" + many, "role s < r;role s- < r", "role r < s"},
		{"a : bot" + many, "role s < r;role r < s", ""},
	} {
		q.check(t)
	}
}

// P9.2: links that hold directly, in the other direction, by role inclusions,
// because nothing has a model, or not at all.
func TestLinks(t *testing.T) {
	for _, q := range []question{
		{"", "", "(a, b) : r;(a, a) : s;(b, b) : t"},
		{"(a, b) : r", "(a, b) : r", "(b, a) : r;(a, a) : r;(b, b) : r;(a, b) : s;(b, a) : t"},
		{"(a, b) : r;role r < s", "(a, b) : r;(a, b) : s", "(b, a) : s;(b, a) : r;(a, b) : t;(a, a) : s"},
		{"(a, b) : r;role r < s-", "(b, a) : s", "(a, b) : s;(b, a) : r;(b, b) : s"},
		{"(a, b) : r;role r- < s-", "(a, b) : s", "(b, a) : s"},
		{"(a, b) : r;role r- < r", "(a, b) : r;(b, a) : r", "(a, a) : r;(b, a) : s"},
		{"(b, a) : s;role s < r-;role r < t-", "(a, b) : r;(b, a) : t;(b, a) : s", "(a, b) : t;(b, a) : r;(a, b) : s"},
		{"(a, a) : r;role r < s-", "(a, a) : r;(a, a) : s", "(a, b) : r;(b, b) : s;(b, a) : s"},
		{"role s < r;(a, b) : r;(b, a) : r", "(a, b) : r;(b, a) : r", "(a, b) : s;(b, a) : s"},
		{"(a, b) : t;(b, a) : s;(a, a) : r;role s < r", "(b, a) : r;(a, a) : r", "(a, b) : r;(b, b) : r;(a, a) : s"},
		{"some r top < bot;a : some s A", "", "(a, b) : r;(b, a) : s;(a, a) : r"},
		{"(a, b) : r;a : all r bot", "(b, a) : r;(a, a) : t;(b, b) : s", ""},
		{"top < bot", "(a, b) : t;(b, a) : t", ""},
	} {
		q.check(t)
	}
}

// P9.2: what is known without steps: what role inclusions and links say, what
// the type model of a test shows, and nothing that needs a proof.
func TestFewSteps(t *testing.T) {
	for _, c := range []struct {
		axioms, line string
		steps        int
		known        bool
	}{
		{"A < B", "B < A", 0, true},
		{"A < B", "A < B", 0, false},
		{"A < B", "A < B", 100, true},
		{"A < B", "A < A", 0, false},
		{"a : A", "a : A", 0, false},
		{"a : A", "b : A", 0, true},
		{"a : bot", "b : A", 0, false},
		{"role r < s", "role r- < s-", 0, true},
		{"role r < s;a : bot", "role r- < s-", 0, true},
		{"role r < s", "role s < r", 0, true},
		{"a : bot", "role s < r", 0, false},
		{"a : bot", "role s < r", 100, true},
		{"some r top < bot", "role r < s", 0, false},
		{"some r top < bot", "role r < s", 100, true},
		{"role r < s;(a, b) : r", "(a, b) : s", 0, true},
		{"role r < s;(a, b) : r;a : bot", "(a, b) : s", 0, true},
		{"(a, b) : r", "(a, b) : s", 0, true},
		{"(a, b) : r;a : bot", "(a, b) : s", 0, false},
		{"(a, b) : r;a : bot", "(a, b) : s", 100, true},
	} {
		v := asked(t, based(c.axioms), said(c.line), c.steps)
		if v.Known != c.known {
			t.Errorf("%s: %s, %d steps: known: %v", c.axioms, c.line, c.steps, v.Known)
		}
	}
}

// coloring are the lines by which ends of edges have different ones of some
// colors, with an edge between each two of the individuals v0, v1, .. It takes
// very long to see that the colors are too few.
func coloring(colors, inds int) string {
	lines := "role e;" + listed("concept", "C", 0, colors) + listed("ind", "v", 0, inds)
	union := "C0"
	for k := range colors {
		lines += fmt.Sprintf("C%d < all e not C%d;", k, k)
		if k > 0 {
			union = fmt.Sprintf("(%s or C%d)", union, k)
		}
	}
	for k := range inds {
		for before := range k {
			lines += fmt.Sprintf("(v%d, v%d) : e;", before, k)
		}
	}
	return lines + "top < " + union
}

// P9.2: what takes too many steps is not known, but for role inclusions and
// links that follow without a search.
func TestTooManySteps(t *testing.T) {
	b := parsed(coloring(8, 9) + ";role f;role e < f-")
	if a, e := search.Search(b, api.MaxSteps); a.Known || e != api.OK {
		t.Fatal("the colors are known to be too few")
	}
	for _, steps := range []int{0, 1, api.MaxSteps} {
		for _, line := range []string{"C0 < C1", "v0 : C0", "role f < e", "(v0, v1) : f", "(v0, v0) : e"} {
			if v := asked(t, b, over(b, line), steps); v.Known {
				t.Errorf("%s, %d steps: known", line, steps)
			}
		}
		for _, line := range []string{"role e- < f", "role f < f", "(v1, v0) : f", "(v0, v1) : e"} {
			if v := asked(t, b, over(b, line), steps); !v.Known || !v.Holds {
				t.Errorf("%s, %d steps: %+v", line, steps, v)
			}
		}
	}
}

// P9.2: what is known with some steps is known with more, with the same verdict.
func TestMoreSteps(t *testing.T) {
	b := parsed(coloring(3, 4))
	for _, line := range []string{"C0 < C1", "v0 : bot", "v0 : C0", "role e < e-", "(v1, v0) : e"} {
		var before task.Verdict
		for steps := 0; steps <= api.MaxSteps; steps += 1 + steps/4 {
			v := asked(t, b, over(b, line), steps)
			if before.Known && (!v.Known || v.Holds != before.Holds) {
				t.Errorf("%s, %d steps: known: %v, holds: %v", line, steps, v.Known, v.Holds)
			}
			before = v
		}
		if !before.Known || !before.Holds {
			t.Errorf("%s: known: %v, holds: %v", line, before.Known, before.Holds)
		}
	}
}

// P9.2: role inclusions and links where the test of an inclusion is too large.
func TestNoRoomForTests(t *testing.T) {
	inds := "concept A;role r;role s;" + listed("ind", "i", 0, 10)
	for _, c := range []struct {
		lines, line  string
		known, holds bool
	}{
		{inds + "role r < s", "role r < s", true, true},
		{inds + "role r < s", "role s < r", true, false},
		{inds + "(i0, i9) : s", "role s < r", true, false},
		{inds + "i9 : bot", "role s < r", true, true},
		{inds + "some s top < bot", "role s < r", false, false},
		{inds + "(i0, i9) : s;role s < r", "(i0, i9) : r", true, true},
		{inds + "(i0, i9) : s;role r < s", "(i0, i9) : r", true, false},
		{inds + "i9 : bot", "(i0, i9) : r", true, true},
		{"role r;role s" + strings.Repeat(";role r < s", 60), "role s < r", true, false},
		{"role r;ind a" + strings.Repeat(";(a, a) : r", 60), "role r < r-", true, false},
		{"role r;ind a" + strings.Repeat(";a : not not not not top", 60), "(a, a) : r", true, false},
		{"role r;ind a" + strings.Repeat(";a : not not not not not bot", 60), "role r- < r", true, false},
		{"role r;ind a" + strings.Repeat(";a : not not not not bot", 60), "role r- < r", true, true},
	} {
		b := parsed(c.lines)
		x := over(b, c.line)
		v, e := task.Entails(b, x, api.MaxSteps)
		expect(t, c.lines+": "+c.line, v, e, task.Verdict{Known: c.known, Holds: c.holds}, api.OK)
		right, e := task.Right(b, x, v)
		expect(t, c.lines+": "+c.line+": Right", right, e, true, api.OK)
	}
}
