package hier_test

import (
	"math/rand"
	"slices"
	"strings"
	"testing"

	"isagoge/api"
	"isagoge/concept"
	"isagoge/hier"
	"isagoge/interp"
)

// truths returns in which types c is true, as a string with a digit for each
// type, from the first one on.
func truths(t *testing.T, b api.Base, more []api.Concept, c api.Concept) string {
	t.Helper()
	marks, e := hier.Marks(b, more)
	if e != api.OK {
		t.Fatalf("Marks: error %d", e)
	}
	var w strings.Builder
	for k := range 1 << len(marks) {
		is, e := hier.True(b, more, k, c)
		switch {
		case e != api.OK:
			t.Fatalf("%s: error %d", text([]api.Concept{c}), e)
		case is:
			w.WriteString("1")
		default:
			w.WriteString("0")
		}
	}
	return w.String()
}

// P5.2: the marks of the example are A, B, some r not B: the bits 0, 1 and 2.
func TestTrue(t *testing.T) {
	for _, c := range []struct{ s, want string }{
		{"A", "01010101"},
		{"B", "00110011"},
		{"some r not B", "00001111"},
		{"all r B", "11110000"},
		{"top", "11111111"},
		{"bot", "00000000"},
		{"not A", "10101010"},
		{"not top", "00000000"},
		{"not bot", "11111111"},
		{"not not A", "01010101"},
		{"not some r not B", "11110000"},
		{"not all r B", "00001111"},
		{"not not all r B", "11110000"},
		{"(A and B)", "00010001"},
		{"(A or B)", "01110111"},
		{"not (A and B)", "11101110"},
		{"not (A or B)", "10001000"},
		{"(not A or B)", "10111011"},
		{"(A and top)", "01010101"},
		{"(bot and A)", "00000000"},
		{"(bot or A)", "01010101"},
		{"(A or top)", "11111111"},
		{"(A and all r B)", "01010000"},
		{"(all r B or B)", "11110011"},
		{"(some r not B and not A)", "00001010"},
		{"(some r not B and all r B)", "00000000"},
		{"(some r not B or all r B)", "11111111"},
		{"((A and B) or (not A and not B))", "10011001"},
		{"some r not not not B", "00001111"},
		{"all r not not B", "11110000"},
	} {
		if got := truths(t, based("A < all r B"), nil, of(c.s)); got != c.want {
			t.Errorf("%s: %s, not %s", c.s, got, c.want)
		}
	}
}

// P5.2: marks from facts and further concepts, and those inside of others.
func TestTrueOfSources(t *testing.T) {
	for _, c := range []struct{ axioms, more, s, want string }{
		{"", "", "(top and not bot)", "1"},
		{"", "", "bot", "0"},
		{"a : A", "", "A", "01"},
		{"", "A", "not A", "10"},
		{"", "top;B", "B", "01"},
		{"", "some s- top", "all s- bot", "10"},
		{"C < top", "A", "C", "0011"},
		{"C < top", "A", "A", "0101"},
		{"a : some r some s top", "", "some r some s top", "0101"},
		{"a : some r some s top", "", "some s top", "0011"},
		{"a : all r all s bot", "", "all r all s bot", "1010"},
		{"a : all r all s bot", "", "some r some s top", "0101"},
		{"a : all r all s bot", "", "not some r not all s bot", "1010"},
		{"a : all r all s bot", "", "all s bot", "1100"},
		{"a : some r all s bot", "", "all r some s top", "1010"},
		{"a : some r (A and B)", "", "some r not (not A or not B)", "00001111"},
		{"a : some r (A and B)", "", "all r (not A or not B)", "11110000"},
		{"a : some r A;b : some s A", "", "(some r A and all s not A)", "00110000"},
	} {
		if got := truths(t, based(c.axioms), listOf(c.more), of(c.s)); got != c.want {
			t.Errorf("%s with %s, %s: %s, not %s", c.axioms, c.more, c.s, got, c.want)
		}
	}
}

// P5.2: the smallest and the largest type, and the numbers beside them.
func TestTrueTypes(t *testing.T) {
	for count := range 9 {
		l := counted(count/2, count-count/2, 1)
		b := api.Base{Names: manyNames()}
		largest := 1<<count - 1
		for _, c := range []struct {
			number int
			want   api.Errno
		}{{-1, api.ErrArg}, {0, api.OK}, {largest, api.OK}, {largest + 1, api.ErrArg}, {2*largest + 2, api.ErrArg}} {
			is, e := hier.True(b, l, c.number, top())
			expect(t, "top", is, e, c.want == api.OK, c.want)
			is, e = hier.True(b, l, c.number, bot())
			expect(t, "bot", is, e, false, c.want)
			if count > 0 {
				is, e = hier.True(b, l, c.number, l[count-1])
				expect(t, "the last mark", is, e, c.number == largest, c.want)
			}
		}
		for _, number := range farNumbers() {
			is, e := hier.True(b, l, number, top())
			expect(t, "no type", is, e, false, api.ErrArg)
		}
	}
}

// P5.2: names and quantified concepts that are no marks, also where the rest
// of the concept decides.
func TestTrueErrArg(t *testing.T) {
	const axioms = "A < all r B;a : some s (A and some t B)"
	for _, s := range []string{
		"C", "not C", "(A and C)", "(C and A)", "(A or C)", "(C or A)", "(bot and C)", "(C and bot)", "(top or C)", "(C or top)", "not (not A and not C)", "((A or C) or top)",
		"some r C", "all r C", "some r B", "all r not B", "not some r B", "not all r not B", "some r A", "some r top", "some r not A", "some r- not B", "all r- B",
		"some s not B", "all t B", "some s all r B", "some s A", "some s (some t B and A)", "some s (A and B)", "all s (A and some t B)",
		"some s- (A and some t B)", "some s not (A and some t B)", "some s (A or some t B)", "some t (A and some t B)",
		"(bot and some r B)", "(top or all t B)", "some r (not B and not B)", "some r (not B or bot)", "all s (A and some t B)",
	} {
		for _, number := range []int{0, 1, 31} {
			is, e := hier.True(based(axioms), nil, number, of(s))
			expect(t, s, is, e, false, api.ErrArg)
		}
	}
	for _, s := range []string{
		"some s (A and some t B)", "all s (not A or all t not B)", "all s (not A or not some t B)", "some t B", "all t not B", "not all s not (A and not all t not B)", "some s not (not A or not some t B)",
	} {
		_, e := hier.True(based(axioms), nil, 0, of(s))
		expect(t, s, nil, e, nil, api.OK)
	}
	is, e := hier.True(based(""), nil, 0, of("A"))
	expect(t, "no marks", is, e, false, api.ErrArg)
	is, e = hier.True(based("role r < s;(a, b) : r"), nil, 0, of("some r top"))
	expect(t, "no marks", is, e, false, api.ErrArg)
}

// P5.2 (and R1, R2): which error comes first.
func TestTrueErrors(t *testing.T) {
	b, crowded := based("A < all r B"), based("(A and (B and C)) < some r (some s top and some t top);a : all r all s all t A")
	for _, wrong := range wrongBases() {
		for _, more := range [][]api.Concept{nil, {name(0)}, {name(3)}, counted(0, 6, 1)} {
			for _, c := range []api.Concept{name(0), name(2), name(3)} {
				for _, number := range []int{0, -1} {
					is, e := hier.True(wrong, more, number, c)
					expect(t, "a wrong knowledge base", is, e, false, api.ErrBase)
				}
			}
		}
	}
	for _, wrong := range wrongConcepts() {
		for _, base := range []api.Base{b, crowded} {
			for _, number := range []int{0, -1, 8} {
				for _, more := range [][]api.Concept{nil, {name(0)}, counted(0, 6, 1)} {
					is, e := hier.True(base, more, number, wrong)
					expect(t, "a wrong concept", is, e, false, api.ErrConcept)
					is, e = hier.True(base, append([]api.Concept{wrong}, more...), number, name(0))
					expect(t, "a wrong further concept", is, e, false, api.ErrConcept)
					is, e = hier.True(base, append(slices.Clone(more), wrong), number, name(2))
					expect(t, "a wrong further concept", is, e, false, api.ErrConcept)
				}
			}
		}
	}
	for _, number := range append(farNumbers(), 0, 255) {
		for _, c := range []api.Concept{top(), name(0), some(5, top())} {
			is, e := hier.True(crowded, nil, number, c)
			expect(t, "too many marks", is, e, false, api.ErrSpace)
			is, e = hier.True(b, counted(3, 6, 1), number, c)
			expect(t, "too many marks", is, e, false, api.ErrSpace)
		}
	}
}

// P5.2: True has no error for marks that are too large: they are marks, too.
func TestTrueOfLargeMarks(t *testing.T) {
	for _, l := range larges() {
		marks := marksOf(based(""), []api.Concept{l.c})
		place := len(marks) - 1
		for number := range 1 << len(marks) {
			is, e := hier.True(based(""), []api.Concept{l.c}, number, l.c)
			want := number>>place&1 == 1
			expect(t, l.label, is, e, want == (l.c.Op == api.CSome), api.OK)
		}
		is, e := hier.True(stated(l.c), nil, 1<<len(marks), l.c)
		expect(t, l.label, is, e, false, api.ErrArg)
	}
}

// P5.2 and P5.4: concepts whose negation normal forms are too large.
func TestTrueOfLargeNormalForms(t *testing.T) {
	for _, c := range []api.Concept{bushy(200, name(0)), deep(20, name(0))} {
		for number := range 2 {
			is, e := hier.True(based("A < top"), nil, number, c)
			expect(t, "a large one", is, e, number == 1, api.OK)
		}
	}
	for _, c := range []api.Concept{not(bushy(199, name(0))), not(deep(19, name(0)))} {
		for number := range 2 {
			is, e := hier.True(based("A < top"), nil, number, c)
			expect(t, "a negation of a large one", is, e, number == 0, api.OK)
		}
	}
}

// trueOf returns whether a concept in negation normal form is true in a type,
// by the definition, and false if some of its parts are no marks.
func trueOf(marks []api.Concept, number int, c api.Concept) (is, known bool) {
	contains := func(mark api.Concept) (bool, bool) {
		k := slices.IndexFunc(marks, func(d api.Concept) bool { return concept.Same(d, mark) })
		return k >= 0 && number>>k&1 == 1, k >= 0
	}
	switch c.Op {
	case api.CTop, api.CBot:
		return c.Op == api.CTop, true
	case api.CName, api.CSome:
		return contains(c)
	case api.CAll:
		is, known = contains(some(c.N, normal(not(c.Args[0]))))
		return !is, known
	case api.CNot:
		is, known = trueOf(marks, number, c.Args[0])
		return !is, known
	}
	left, first := trueOf(marks, number, c.Args[0])
	right, second := trueOf(marks, number, c.Args[1])
	if c.Op == api.CAnd {
		return left && right, first && second
	}
	return left || right, first && second
}

// partsOf returns some concepts whose names and quantified concepts occur in
// a knowledge base and further concepts, and some others.
func partsOf(r *rand.Rand, b api.Base, more []api.Concept) []api.Concept {
	l := slices.Clone(more)
	for _, x := range b.Incls {
		l = append(l, x.Sub, x.Super, or(not(x.Sub), x.Super))
	}
	for _, x := range b.Facts {
		l = append(l, x.Concept)
	}
	for _, c := range slices.Clone(l) {
		subs, _ := concept.Subs(b.Names, c)
		l = append(l, subs[r.Intn(len(subs))], not(normal(c)), and(not(c), subs[0]))
	}
	return append(l, random(r, 1), random(r, 2), random(r, 3))
}

// P5.2 and P5.4: the same by the definition, for many knowledge bases; a
// concept is true if its normal form is, and if its negation is not.
func TestTrueByDefinition(t *testing.T) {
	r := rand.New(rand.NewSource(4))
	met := map[bool]int{}
	for range 500 {
		b, more := randomBase(r)
		marks, e := hier.Marks(b, more)
		if e != api.OK {
			continue
		}
		for _, c := range partsOf(r, b, more) {
			number := r.Intn(1 << len(marks))
			want, known := trueOf(marks, number, normal(c))
			met[known]++
			normalized, e := concept.Normal(b.Names, c)
			negated, f := concept.Not(b.Names, c)
			if e != api.OK || f != api.OK {
				t.Fatalf("errors %d and %d", e, f)
			}
			for k, d := range []api.Concept{c, normalized, not(c), negated} {
				is, e := hier.True(b, more, number, d)
				switch negative := k >= 2; {
				case !known:
					expect(t, "no marks", is, e, false, api.ErrArg)
				case e != api.OK || is != (want != negative):
					t.Errorf("%s in the type %d of %s: %v, error %d", shown(d), number, text(marks), is, e)
				}
			}
		}
	}
	if met[true] < 5000 || met[false] < 300 {
		t.Errorf("%d concepts over the marks, %d others", met[true], met[false])
	}
}

// randomInterp returns an interpretation of names.
func randomInterp(r *rand.Rand) api.Interp {
	i := api.Interp{Size: 1 + r.Intn(4), Concepts: make([][]int, 3), Roles: make([][][2]int, 3), Inds: []int{0, 0}}
	for k := range 3 {
		for x := range i.Size {
			if r.Intn(2) == 0 {
				i.Concepts[k] = append(i.Concepts[k], x)
			}
			for y := range i.Size {
				if r.Intn(3) == 0 {
					i.Roles[k] = append(i.Roles[k], [2]int{x, y})
				}
			}
		}
	}
	return i
}

// P5.4: in the type of the marks to which an element belongs, a concept is true
// if the element belongs to it.
func TestTrueInInterpretations(t *testing.T) {
	r := rand.New(rand.NewSource(5))
	for range 300 {
		b, more := randomBase(r)
		marks, e := hier.Marks(b, more)
		if e != api.OK {
			continue
		}
		i := randomInterp(r)
		belongs := func(x int, c api.Concept) bool {
			list, e := interp.Elements(b.Names, c, i)
			if e != api.OK {
				t.Fatalf("Elements of %s: error %d", shown(c), e)
			}
			return slices.Contains(list, x)
		}
		for x := range i.Size {
			number := 0
			for k, mark := range marks {
				if belongs(x, mark) {
					number |= 1 << k
				}
			}
			for _, c := range partsOf(r, b, more) {
				if got, e := hier.True(b, more, number, c); e == api.OK && got != belongs(x, c) {
					t.Errorf("%s in the type %d of %s: %v", shown(c), number, text(marks), got)
				}
			}
		}
	}
}
