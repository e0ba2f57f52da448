package task_test

import (
	"fmt"
	"math"
	"slices"
	"testing"

	"isagoge/api"
	"isagoge/kb"
	"isagoge/task"
)

// expectTest checks the test for the axiom of a line, and its lines.
func expectTest(t *testing.T, b api.Base, line string, lines string) {
	t.Helper()
	got, e := task.Test(b, over(b, line))
	expect(t, text(b)+line, got, e, parsed(lines), api.OK)
}

// P9.1: the shape of tests for facts: the last fact is negated as it stands.
func TestTestOfFact(t *testing.T) {
	expectTest(t, based(""), "a : A", declared+"a : not A")
	expectTest(t, based(""), "b : not not (A and top)", declared+"b : not not not (A and top)")
	expectTest(t, based("a : B;b : C;a : A"), "a : A", declared+"a : B;b : C;a : A;a : not A")
	expectTest(t, based("A < B;role r < s-;b : C;(a, b) : t"), "a : some r- all s bot", declared+"A < B;role r < s-;b : C;a : not some r- all s bot;(a, b) : t")
	expectTest(t, parsed("ind i"), "i : bot", "ind i;i : not bot")
	expectTest(t, parsed("concept x0;ind x1"), "x1 : x0", "concept x0;ind x1;x1 : not x0")
}

// P9.1: the shape of tests for inclusions: one more individual, and one fact
// about it.
func TestTestOfInclusion(t *testing.T) {
	expectTest(t, based(""), "A < B", declared+"ind x0;x0 : (A and not B)")
	expectTest(t, based(""), "not A < not not B", declared+"ind x0;x0 : (not A and not not not B)")
	expectTest(t, based("a : B;b : C"), "A < A", declared+"ind x0;a : B;b : C;x0 : (A and not A)")
	expectTest(t, based("A < B;role r < s-;b : C;(a, b) : t"), "some r A < (B or C)", declared+"ind x0;A < B;role r < s-;b : C;x0 : (some r A and not (B or C));(a, b) : t")
	expectTest(t, parsed(""), "top < bot", "ind x0;x0 : (top and not bot)")
	expectTest(t, parsed("concept A;role r"), "A < all r- A", "concept A;role r;ind x0;x0 : (A and not all r- A)")
	cats := "concept Cat;concept Mouse;concept Hunter;role hunts;Cat < some hunts Mouse;some hunts top < Hunter"
	expectTest(t, parsed(cats), "Cat < Hunter", cats+";ind x0;x0 : (Cat and not Hunter)")
}

// P9.1: the name of the new individual is the first one that is not taken.
func TestNewName(t *testing.T) {
	for _, c := range []struct{ names, want string }{
		{"ind i", "x0"},
		{"concept x0", "x1"},
		{"role x0", "x1"},
		{"ind x0", "x1"},
		{"ind x1", "x0"},
		{"concept x1;role x2;ind x3", "x0"},
		{"role x0;concept x1;ind x2", "x3"},
		{"ind x2;ind x0;concept x1", "x3"},
		{"concept x0;concept x2", "x1"},
		{"concept X0;role x00;ind x_0", "x0"},
		{"concept x0;role x01;ind x", "x1"},
		{listed("concept", "x", 0, 10), "x10"},
		{listed("concept", "x", 0, 9) + "ind x10", "x9"},
		{listed("concept", "x", 0, 16) + listed("role", "x", 16, 22) + listed("ind", "x", 22, 31), "x31"},
		{listed("ind", "x", 0, 9) + listed("role", "x", 9, 15) + listed("concept", "x", 15, 31), "x31"},
	} {
		expectTest(t, parsed(c.names), "top < bot", c.names+";ind "+c.want+";"+c.want+" : (top and not bot)")
	}
}

// P9.1: role inclusions and links have no test.
func TestNoTest(t *testing.T) {
	full := based("A < B;role r < s;a : A;(a, b) : r")
	for _, line := range []string{"role r < s", "role t- < r", "(a, b) : r", "(b, b) : t"} {
		test, e := task.Test(full, said(line))
		expect(t, line, test, e, api.Base{}, api.ErrArg)
	}
}

// expectSizeError checks the error of all functions with an axiom.
func expectSizeError(t *testing.T, label string, b api.Base, x api.Axiom, want api.Errno) {
	t.Helper()
	wanted := tested(b, x)
	if want != api.OK {
		wanted = api.Base{}
	}
	test, e := task.Test(b, x)
	expect(t, label+": Test", test, e, wanted, want)
	if want == api.OK {
		asked(t, b, x, api.MaxSteps)
		return
	}
	for _, steps := range []int{0, 1, api.MaxSteps} {
		v, e := task.Entails(b, x, steps)
		expect(t, label+": Entails", v, e, task.Verdict{}, want)
	}
	for _, v := range []task.Verdict{{}, {Known: true}, {Holds: true}, {Known: true, Holds: true}, {Counter: api.Interp{Size: 1}}} {
		right, e := task.Right(b, x, v)
		expect(t, label+": Right", right, e, false, want)
	}
}

// P9.1, P9.2, P9.3: tests that are too large because of their names or axioms.
func TestTooManyNamesOrAxioms(t *testing.T) {
	for _, c := range []struct {
		label     string
		b         api.Base
		line      string
		wantError api.Errno
	}{
		{"nine individuals", parsed("concept A;" + listed("ind", "i", 0, 9)), "A < A", api.OK},
		{"ten individuals", parsed("concept A;" + listed("ind", "i", 0, 10)), "A < A", api.ErrLarge},
		{"ten individuals", parsed("concept A;" + listed("ind", "i", 0, 10)), "i9 : A", api.OK},
		{"59 inclusions", sized(59, 0, 0, 0), "A < A", api.OK},
		{"60 inclusions", sized(60, 0, 0, 0), "A < A", api.ErrLarge},
		{"60 inclusions", sized(60, 0, 0, 0), "a : A", api.ErrLarge},
		{"59 facts", sized(0, 0, 59, 0), "a : A", api.OK},
		{"60 facts", sized(0, 0, 60, 0), "a : A", api.ErrLarge},
		{"60 role inclusions", sized(0, 60, 0, 0), "a : A", api.ErrLarge},
		{"60 links", sized(0, 0, 0, 60), "A < A", api.ErrLarge},
		{"59 axioms", sized(15, 15, 15, 14), "A < B", api.OK},
		{"60 axioms", sized(15, 15, 15, 15), "A < B", api.ErrLarge},
		{"60 axioms", sized(15, 15, 15, 15), "a : B", api.ErrLarge},
	} {
		expectSizeError(t, c.label+", "+c.line, c.b, over(c.b, c.line), c.wantError)
	}
}

// sized returns a knowledge base over the declared names with numbers of
// axioms.
func sized(incls, roles, facts, links int) api.Base {
	b := based("")
	b.Incls = slices.Repeat([]api.Incl{{Sub: name(0), Super: name(0)}}, incls)
	b.Roles = make([]api.RoleIncl, roles)
	b.Facts = slices.Repeat([]api.Fact{{Concept: top()}}, facts)
	b.Links = make([]api.Link, links)
	return b
}

// P9.1, P9.2, P9.3: tests that are too large because of their nodes: the fact of
// an inclusion has two further ones, that of a fact has one.
func TestTooManyNodes(t *testing.T) {
	filled := func(count int) api.Base {
		b := based("")
		b.Facts = []api.Fact{{Concept: nodes(count)}}
		return b
	}
	for _, c := range []struct {
		label     string
		b         api.Base
		x         api.Axiom
		wantError api.Errno
	}{
		{"396 nodes", filled(396), said("A < B"), api.OK},
		{"397 nodes", filled(397), said("A < B"), api.ErrLarge},
		{"398 nodes", filled(398), said("a : B"), api.OK},
		{"399 nodes", filled(399), said("a : B"), api.ErrLarge},
		{"400 nodes", filled(400), said("A < B"), api.ErrLarge},
		{"400 nodes", filled(400), said("b : top"), api.ErrLarge},
		{"Sub", based(""), inclusion(nodes(397), name(0)), api.OK},
		{"Sub", based(""), inclusion(nodes(398), name(0)), api.ErrLarge},
		{"Super", based(""), inclusion(name(0), nodes(397)), api.OK},
		{"Super", based(""), inclusion(name(0), nodes(398)), api.ErrLarge},
		{"both", based(""), inclusion(nodes(199), nodes(199)), api.OK},
		{"both", based(""), inclusion(nodes(200), nodes(199)), api.ErrLarge},
		{"both, as large as possible", based(""), inclusion(nodes(400), nodes(400)), api.ErrLarge},
		{"fact", based(""), fact(1, nodes(399)), api.OK},
		{"fact", based(""), fact(1, nodes(400)), api.ErrLarge},
		{"fact", filled(200), fact(0, nodes(199)), api.OK},
		{"fact", filled(200), fact(0, nodes(200)), api.ErrLarge},
	} {
		expectSizeError(t, c.label, c.b, c.x, c.wantError)
	}
}

// P9.1, P9.2, P9.3: tests that are too large because of their depth.
func TestTooDeep(t *testing.T) {
	for _, c := range []struct {
		label     string
		x         api.Axiom
		wantError api.Errno
	}{
		{"Sub", inclusion(nested(19), name(0)), api.OK},
		{"Sub", inclusion(nested(20), name(0)), api.ErrLarge},
		{"Super", inclusion(name(0), nested(18)), api.OK},
		{"Super", inclusion(name(0), nested(19)), api.ErrLarge},
		{"Super", inclusion(name(0), nested(20)), api.ErrLarge},
		{"both", inclusion(nested(19), nested(18)), api.OK},
		{"fact", fact(0, nested(19)), api.OK},
		{"fact", fact(0, nested(20)), api.ErrLarge},
	} {
		expectSizeError(t, c.label, based("b : A"), c.x, c.wantError)
	}
}

// full has axioms of all kinds.
const full = "A < some r B;(A or B) < all s- C;role r < s-;role t- < t-;role s < r;a : A;b : not (A and B);a : A;b : bot;(a, b) : t;(b, a) : r;(b, b) : s"

// P9.1: the axioms at all indices, and outside of them.
func TestAxiom(t *testing.T) {
	for _, b := range []api.Base{
		based(full), based("A < B"), based("role r < s"), based("a : A"), based("(a, b) : r"), based("role r- < t;(b, a) : s"), based("A < A;b : B"), based(""), {}, parsed("top < bot"), sized(15, 15, 15, 15),
	} {
		var want []api.Axiom
		for _, x := range b.Incls {
			want = append(want, api.Axiom{Kind: api.AIncl, Incl: x})
		}
		for _, x := range b.Roles {
			want = append(want, api.Axiom{Kind: api.ARole, Role: x})
		}
		for _, x := range b.Facts {
			want = append(want, api.Axiom{Kind: api.AFact, Fact: x})
		}
		for _, x := range b.Links {
			want = append(want, api.Axiom{Kind: api.ALink, Link: x})
		}
		for i := range want {
			x, e := task.Axiom(b, i)
			expect(t, fmt.Sprint(text(b), i), x, e, want[i], api.OK)
			line, _ := kb.Line(b, i)
			expect(t, fmt.Sprint(text(b), line), x, e, over(b, line), api.OK)
		}
		for _, i := range []int{math.MinInt, -2, -1, len(want), len(want) + 1, math.MaxInt} {
			x, e := task.Axiom(b, i)
			expect(t, fmt.Sprint(text(b), i), x, e, api.Axiom{}, api.ErrArg)
		}
	}
}
