package hier_test

import (
	"math/rand"
	"slices"
	"strconv"
	"testing"

	"isagoge/api"
	"isagoge/concept"
	"isagoge/hier"
)

// P5.2: the marks, where semicolons separate axioms, further concepts and
// marks.
func TestMarks(t *testing.T) {
	for _, c := range []struct{ label, axioms, more, want string }{
		{"nothing", "", "", ""},
		{"the example", "A < all r B", "", "A;B;some r not B"},
		{"no concepts", "role r < s;(a, b) : t", "", ""},
		{"top and bot", "top < not bot", "(bot or top)", ""},

		{"names in an inclusion", "C < A", "", "A;C"},
		{"names in a fact", "a : (C or not B)", "", "B;C"},
		{"names in a further concept", "", "(B and A)", "A;B"},
		{"names everywhere", "C < top;b : B", "A", "A;B;C"},
		{"names only inside", "top < some r C;a : all s not some t B", "", "B;C;some r C;some s some t B;some t B"},
		{"each name once", "A < A;a : A", "A;not A", "A"},

		{"some", "", "some r A", "A;some r A"},
		{"some of an inverse", "", "some r- A", "A;some r- A"},
		{"some of top", "", "some t top", "some t top"},
		{"some of bot", "", "some t bot", "some t bot"},
		{"all", "", "all s A", "A;some s not A"},
		{"all of an inverse", "", "all s- not A", "A;some s- A"},
		{"all of top", "", "all t top", "some t bot"},
		{"all of bot", "", "all t bot", "some t top"},
		{"all of and", "", "all r (A and not B)", "A;B;some r (not A or B)"},
		{"all of or", "", "all r (A or not B)", "A;B;some r (not A and B)"},
		{"all of some", "", "all r some s A", "A;some r all s not A;some s A"},
		{"all of all", "", "all r all s A", "A;some r some s not A;some s not A"},
		{"all of all of all", "", "all r all s all t A", "A;some r some s some t not A;some s some t not A;some t not A"},
		{"some of all", "", "some r all s A", "A;some r all s A;some s not A"},
		{"some of some", "", "some r some s A", "A;some r some s A;some s A"},
		{"some of not not", "", "some r not not A", "A;some r A"},
		{"all of not not", "", "all r not not A", "A;some r not A"},

		{"not some", "", "not some r A", "A;some r A"},
		{"not all", "", "not all r A", "A;some r not A"},
		{"not not some", "", "not not some r A", "A;some r A"},
		{"not not all", "", "not not all r A", "A;some r not A"},
		{"not some of not", "", "not some r not A", "A;some r not A"},
		{"not of and", "", "not (some r A and all s B)", "A;B;some r A;some s not B"},
		{"not some of all", "", "not some r all s A", "A;some r all s A;some s not A"},
		{"some of not all", "", "some r not all s A", "A;some r some s not A;some s not A"},
		{"some of not some", "", "some r not some s A", "A;some r all s not A;some s A"},
		{"all of not some", "", "all r not some s A", "A;some r some s A;some s A"},
		{"all of not all", "", "all r not all s A", "A;some r all s A;some s not A"},
		{"in the left side", "some r A < top", "", "A;some r A"},
		{"in the right side", "top < some r A", "", "A;some r A"},
		{"all in the left side", "all r A < top", "", "A;some r not A"},
		{"all in the right side", "top < all r A", "", "A;some r not A"},

		{"preorder", "", "(some r (some s A and all t B) or some s B)", "A;B;some r (some s A and all t B);some s A;some t not B;some s B"},
		{"left before right", "some s A < some r A", "", "A;some s A;some r A"},
		{"inclusions before facts", "a : some r A;A < some s A", "", "A;some s A;some r A"},
		{"facts before further concepts", "a : some r A", "some s A", "A;some r A;some s A"},
		{"the order of inclusions", "A < some s A;A < some r A", "", "A;some s A;some r A"},
		{"the order of facts", "b : some s A;a : some r A", "", "A;some s A;some r A"},
		{"the order of further concepts", "", "some s A;some r A", "A;some s A;some r A"},
		{"all of it", "some t A < all t A;a : some s A", "all r C;some r B", "A;B;C;some t A;some t not A;some s A;some r not C;some r B"},

		{"the same twice", "some r A < some r A", "", "A;some r A"},
		{"the same in several places", "some r A < top;a : some r A", "some r A", "A;some r A"},
		{"the first place counts", "some r A < some s A", "some t A;some s A;some r A", "A;some r A;some s A;some t A"},
		{"the same inside", "", "some r some r top;some r top", "some r some r top;some r top"},
		{"inside first", "", "some r top;some r some r top", "some r top;some r some r top"},
		{"some and all", "", "some r not A;all r A", "A;some r not A"},
		{"the same normal form", "", "some r (A and B);some r not (not A or not B);all r (not A or not B);not all r not (A and not not B)", "A;B;some r (A and B)"},
		{"other roles", "", "some r A;some r- A;some s A", "A;some r A;some r- A;some s A"},
		{"another order", "", "some r (A and B);some r (B and A)", "A;B;some r (A and B);some r (B and A)"},
		{"equivalent ones", "", "some r A;some r (A and A);some r (A and top)", "A;some r A;some r (A and A);some r (A and top)"},
		{"other operators", "", "some r (A and B);some r (A or B)", "A;B;some r (A and B);some r (A or B)"},
		{"equivalent roles", "role r < s;role s < r", "some r A;some s A", "A;some r A;some s A"},
	} {
		got, e := hier.Marks(based(c.axioms), listOf(c.more))
		if text(got) != c.want || e != api.OK {
			t.Errorf("%s: %s, error %d, not %s", c.label, text(got), e, c.want)
		}
	}
}

// counted returns a list of concepts with the given numbers of names, of
// quantified concepts, and of repetitions of all of these.
func counted(inside, quantified, repeated int) []api.Concept {
	var l []api.Concept
	for range repeated {
		for k := range inside {
			l = append(l, name(k))
		}
		for k := range quantified {
			l = append(l, some(k, top()))
		}
	}
	return l
}

// manyNames has 16 concept names and 6 roles.
func manyNames() api.Names {
	n := api.Names{Inds: []string{"a"}}
	for k := range 16 {
		n.Concepts = append(n.Concepts, "C"+strconv.Itoa(k))
	}
	for k := range 6 {
		n.Roles = append(n.Roles, "r"+strconv.Itoa(k))
	}
	return n
}

// P5.2: MaxMarks marks, one more, and many.
func TestMarksErrSpace(t *testing.T) {
	for _, c := range []struct {
		names, quantified int
		want              api.Errno
	}{
		{8, 0, api.OK}, {9, 0, api.ErrSpace}, {16, 0, api.ErrSpace},
		{0, 8, api.OK}, {0, 9, api.ErrSpace}, {0, 12, api.ErrSpace},
		{1, 7, api.OK}, {7, 1, api.OK}, {4, 4, api.OK}, {4, 5, api.ErrSpace}, {5, 4, api.ErrSpace}, {8, 1, api.ErrSpace}, {1, 8, api.ErrSpace}, {16, 12, api.ErrSpace},
	} {
		for repeated := 1; repeated <= 2; repeated++ {
			l := counted(c.names, c.quantified, repeated)
			stay, added := api.Base{Names: manyNames()}, api.Base{Names: manyNames()}
			for k, x := range l {
				if k%2 == 0 {
					stay.Incls = append(stay.Incls, api.Incl{Sub: top(), Super: x})
				} else {
					stay.Facts = append(stay.Facts, api.Fact{Concept: x})
				}
			}
			want := 0
			if c.want == api.OK {
				want = c.names + c.quantified
			}
			got, e := hier.Marks(stay, nil)
			expect(t, "marks in axioms", len(got), e, want, c.want)
			got, e = hier.Marks(added, l)
			expect(t, "marks in further concepts", len(got), e, want, c.want)
			is, e := hier.True(stay, l, 0, top())
			expect(t, "True", is, e, c.want == api.OK, c.want)
		}
	}
}

// P5.2: marks of a concept count inside of other ones too.
func TestMarksErrSpaceInside(t *testing.T) {
	nested := name(0)
	for depth := 1; depth <= 12; depth++ {
		nested = all(depth%6, nested)
		want, wantError := depth+1, api.OK
		if want > api.MaxMarks {
			want, wantError = 0, api.ErrSpace
		}
		got, e := hier.Marks(included(not(nested), top()), nil)
		expect(t, "nested "+strconv.Itoa(depth), len(got), e, want, wantError)
	}
}

// A large is a concept with one mark besides names, which may be too large.
type large struct {
	label string
	c     api.Concept
	want  api.Errno
}

// larges has the names A and B alone.
func larges() []large {
	// The negation of a conjunction of k leaves, among them n names, has
	// 2k - 1 + n nodes.
	leaves := func(names, tops int) api.Concept {
		return and(bushy(names, name(0)), bushy(tops, top()))
	}
	return []large{
		{"399 nodes", all(1, bushy(133, name(0))), api.OK},
		{"400 nodes", all(1, leaves(132, 2)), api.OK},
		{"401 nodes", all(1, leaves(133, 1)), api.ErrLarge},
		{"402 nodes", all(1, bushy(134, name(0))), api.ErrLarge},
		{"512 nodes", all(1, leaves(170, 1)), api.ErrLarge},
		{"401 nodes of not some", some(1, not(leaves(133, 1))), api.ErrLarge},
		{"400 nodes of not some", some(1, not(leaves(132, 2))), api.OK},
		{"some of 366 nodes", some(1, leaves(181, 2)), api.OK},
		{"depth 20", all(1, deep(18, name(0))), api.OK},
		{"depth 20 of top", all(1, deep(19, top())), api.OK},
		{"depth 20 of not", all(1, deep(18, not(name(0)))), api.OK},
		{"depth 21", all(1, deep(19, name(0))), api.ErrLarge},
		{"depth 21 of or", all(1, deep(18, or(name(0), name(1)))), api.ErrLarge},
		{"depth 20 of not some", some(1, not(deep(17, or(name(0), name(1))))), api.OK},
		{"depth 20 of some", some(1, deep(19, name(0))), api.OK},
		{"depth 19 of not not", all(1, not(not(deep(17, name(0))))), api.OK},
	}
}

// P5.2: marks that are too large or too deep, wherever they come from.
func TestMarksErrLarge(t *testing.T) {
	for _, c := range larges() {
		negated := large{"not " + c.label, not(c.c), c.want}
		for _, l := range []large{c, negated} {
			if _, depth := concept.Size(l.c); depth > api.MaxDepth {
				continue
			}
			bases := []api.Base{included(l.c, top()), included(top(), l.c), stated(l.c)}
			for _, b := range bases {
				_, e := hier.Marks(b, nil)
				expect(t, l.label, nil, e, nil, l.want)
			}
			got, e := hier.Marks(based(""), []api.Concept{top(), l.c})
			expect(t, l.label, len(got) > 0, e, l.want == api.OK, l.want)
		}
	}
}

// P5.2: what is too large for a concept, but is not a mark, does not matter:
// normal forms with 590 nodes and more, and some with a depth of 21 or 22.
func TestMarksOfLargeNormalForms(t *testing.T) {
	many := bushy(197, name(1))
	for _, c := range []struct {
		b    api.Base
		want string
	}{
		{included(many, top()), "B"},
		{stated(not(many)), "B"},
		{included(top(), not(and(many, some(0, top())))), "B;some r top"},
		{included(deep(20, name(0)), name(1)), "A;B"},
		{stated(not(deep(19, name(2)))), "C"},
		{included(top(), or(bot(), deep(19, name(0)))), "A"},
	} {
		got, e := hier.Marks(c.b, nil)
		if text(got) != c.want || e != api.OK {
			t.Errorf("%s, error %d, not %s", text(got), e, c.want)
		}
	}
	for _, c := range []api.Concept{not(deep(19, name(0))), deep(20, name(0)), bushy(200, name(0)), not(bushy(200, name(0)))} {
		got, e := hier.Marks(based(""), []api.Concept{c})
		if text(got) != "A" || e != api.OK {
			t.Errorf("%s, error %d, not A", text(got), e)
		}
	}
}

// P5.2 (and R1): too many marks come before ones that are too large, and these
// count like others, once each.
func TestMarksErrSpaceFirst(t *testing.T) {
	first, second := all(0, bushy(134, name(0))), all(0, bushy(135, name(0)))
	again := some(0, not(bushy(134, name(0))))
	// The name of the large ones is among the names.
	for _, c := range []struct {
		label string
		names int
		l     []api.Concept
		want  api.Errno
	}{
		{"one", 7, []api.Concept{first}, api.ErrLarge},
		{"one too many", 8, []api.Concept{first}, api.ErrSpace},
		{"two", 6, []api.Concept{first, second}, api.ErrLarge},
		{"two, one too many", 7, []api.Concept{first, second}, api.ErrSpace},
		{"one twice", 7, []api.Concept{first, first, again}, api.ErrLarge},
		{"one twice, and too many", 8, []api.Concept{again, first}, api.ErrSpace},
		{"other roles", 7, []api.Concept{first, all(1, bushy(134, name(0)))}, api.ErrSpace},
	} {
		l := append(counted(c.names, 0, 1), c.l...)
		got, e := hier.Marks(api.Base{Names: manyNames()}, l)
		expect(t, c.label, got, e, []api.Concept(nil), c.want)
		slices.Reverse(l)
		got, e = hier.Marks(api.Base{Names: manyNames()}, l)
		expect(t, c.label, got, e, []api.Concept(nil), c.want)
	}
}

// P5.2 (and R2): errors of arguments come first, those of the knowledge base
// before those of concepts.
func TestMarksErrors(t *testing.T) {
	tooMany, tooLarge := counted(3, 6, 1), []api.Concept{all(1, bushy(134, name(0)))}
	for _, b := range wrongBases() {
		for _, more := range [][]api.Concept{nil, {name(0)}, {name(3)}, tooMany, tooLarge} {
			got, e := hier.Marks(b, more)
			expect(t, "a wrong knowledge base", got, e, []api.Concept(nil), api.ErrBase)
		}
	}
	crowded := based("(A and (B and C)) < some r (some s top and some t top);a : all r all s all t A")
	got, e := hier.Marks(crowded, nil)
	expect(t, "crowded", got, e, []api.Concept(nil), api.ErrSpace)
	for _, b := range []api.Base{based(""), based("A < some r B"), crowded, stated(tooLarge[0])} {
		for _, c := range wrongConcepts() {
			for _, more := range [][]api.Concept{{c}, {c, name(0)}, {name(0), c}, append([]api.Concept{c}, tooMany...), append(slices.Clone(tooMany), c), {tooLarge[0], c}} {
				got, e := hier.Marks(b, more)
				expect(t, "a wrong concept", got, e, []api.Concept(nil), api.ErrConcept)
			}
		}
	}
}

// normal returns the negation normal form of c, by the rules of chapter 1.
func normal(c api.Concept) api.Concept {
	if c.Op != api.CNot {
		d := api.Concept{Op: c.Op, N: c.N}
		for _, arg := range c.Args {
			d.Args = append(d.Args, normal(arg))
		}
		return d
	}
	switch d := c.Args[0]; d.Op {
	case api.CTop:
		return bot()
	case api.CBot:
		return top()
	case api.CNot:
		return normal(d.Args[0])
	case api.CAnd:
		return or(normal(not(d.Args[0])), normal(not(d.Args[1])))
	case api.COr:
		return and(normal(not(d.Args[0])), normal(not(d.Args[1])))
	case api.CSome:
		return all(d.N, normal(not(d.Args[0])))
	case api.CAll:
		return some(d.N, normal(not(d.Args[0])))
	}
	return c
}

// A finder collects marks by their definition.
type finder struct {
	names [3]bool
	marks []api.Concept
}

// find collects the marks in a negation normal form.
func (f *finder) find(c api.Concept) {
	switch c.Op {
	case api.CName:
		f.names[c.N] = true
	case api.CSome:
		f.add(c)
	case api.CAll:
		f.add(some(c.N, normal(not(c.Args[0]))))
	}
	for _, arg := range c.Args {
		f.find(arg)
	}
}

func (f *finder) add(mark api.Concept) {
	met := func(c api.Concept) bool { return concept.Same(c, mark) }
	if !slices.ContainsFunc(f.marks, met) {
		f.marks = append(f.marks, mark)
	}
}

// marksOf returns the marks by their definition, of any number.
func marksOf(b api.Base, more []api.Concept) []api.Concept {
	var f finder
	for _, x := range b.Incls {
		f.find(normal(or(not(x.Sub), x.Super)))
	}
	for _, x := range b.Facts {
		f.find(normal(x.Concept))
	}
	for _, c := range more {
		f.find(normal(c))
	}
	var l []api.Concept
	for k, used := range f.names {
		if used {
			l = append(l, name(k))
		}
	}
	return append(l, f.marks...)
}

// P5.2: the same by the definition, for many knowledge bases.
func TestMarksByDefinition(t *testing.T) {
	r := rand.New(rand.NewSource(3))
	few, many := 0, 0
	for range 4000 {
		b, more := randomBase(r)
		want, wantError := marksOf(b, more), api.OK
		if len(want) > api.MaxMarks {
			want, wantError = nil, api.ErrSpace
			many++
		} else if len(want) > 3 {
			few++
		}
		got, e := hier.Marks(b, more)
		if e != wantError || text(got) != text(want) {
			t.Errorf("%s with %s: %s, error %d, not %s, error %d", shown(b), text(more), text(got), e, text(want), wantError)
		}
	}
	if few < 500 || many < 100 {
		t.Errorf("%d lists of marks, %d that are too long", few, many)
	}
}

// P5.2 (and R10): a list of further concepts that is long.
func TestMarksOfManyConcepts(t *testing.T) {
	more := slices.Repeat(listOf("some r (A and B);all s not C;not some r (A and B)"), 5000)
	got, e := hier.Marks(based(""), more)
	if want := "A;B;C;some r (A and B);some s C"; text(got) != want || e != api.OK {
		t.Errorf("%s, error %d, not %s", text(got), e, want)
	}
	more = append(more, listOf("some r A;some s A;some t A;some r- A")...)
	got, e = hier.Marks(based(""), more)
	expect(t, "one more", got, e, []api.Concept(nil), api.ErrSpace)
}
