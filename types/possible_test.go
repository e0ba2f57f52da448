package types_test

import (
	"math"
	"strings"
	"testing"

	"isagoge/api"
	"isagoge/types"
)

// possible returns which types are possible successors of which others for a
// role, as a string: a word for each type, with a digit for each type.
func possible(t *testing.T, b api.Base, more []api.Concept, role, count int) string {
	t.Helper()
	var words []string
	for x := range count {
		word := ""
		for y := range count {
			is, e := types.Possible(b, more, role, x, y)
			switch {
			case e != api.OK:
				t.Fatalf("Possible of %d, %d and %d: error %d", role, x, y, e)
			case is:
				word += "1"
			default:
				word += "0"
			}
		}
		words = append(words, word)
	}
	return strings.Join(words, " ")
}

// P6.1: the possible successors for each of the roles r, r-, s and s-.
func TestPossible(t *testing.T) {
	const (
		all  = "1111 1111 1111 1111"
		some = "1010 1010 1111 1111"
		// back is the transposition of some: an r- B of a type is one that
		// some r A in the other one allows.
		back = "1111 0011 1111 0011"
		both = "1010 0010 1111 0011"
	)
	for _, c := range []struct{ label, axioms, more, r, rInverse, s, sInverse string }{
		{"no marks", "", "", "1", "1", "1", "1"},
		{"no axioms about types", "role r < s;(a, b) : r", "", "1", "1", "1", "1"},
		{"a name", "", "A", "11 11", "11 11", "11 11", "11 11"},
		{"a type that is not allowed", "A < bot", "", "11 11", "11 11", "11 11", "11 11"},
		{"some", "", "some r A", some, back, all, all},
		{"some of an inverse", "", "some r- A", back, some, all, all},
		{"some of another role", "", "some t A", all, all, all, all},
		{"some in an inclusion", "A < some r A", "", some, back, all, all},
		{"some in a fact", "b : some r A", "", some, back, all, all},
		{"all", "", "all r A", "0101 0101 1111 1111", "0011 1111 0011 1111", all, all},
		{"all of not", "", "all r not A", some, back, all, all},
		{"some of top", "", "some r top", "00 11", "01 01", "11 11", "11 11"},
		{"some of bot", "", "some r bot", "11 11", "11 11", "11 11", "11 11"},

		{"a role above", "role s < r", "some r A", some, back, some, back},
		{"a role below", "role r < s", "some r A", some, back, all, all},
		{"a role above the inverse", "role s- < r", "some r A", some, back, back, some},
		{"an inverse above the role", "role s < r-", "some r A", some, back, back, some},
		{"an inverse above the inverse", "role s- < r-", "some r A", some, back, some, back},
		{"a role above a role above", "role s < t;role t < r", "some r A", some, back, some, back},
		{"inverses above inverses", "role s < t-;role t < r-", "some r A", some, back, some, back},
		{"the inverse of a role above", "role s < r", "some r- A", back, some, back, some},
		{"equivalent roles", "role s < r;role r < s", "some r A", some, back, some, back},
		{"a symmetric role", "role r < r-", "some r A", both, both, all, all},
		{"a role above both ways", "role s < r;role s < r-", "some r A", some, back, both, both},
		{"below its inverse", "role s < t;role t < t-", "some t A", all, all, both, both},
	} {
		b, more := based(c.axioms), listOf(c.more)
		count := len(strings.Split(c.r, " "))
		for role, want := range []string{c.r, c.rInverse, c.s, c.sInverse} {
			if got := possible(t, b, more, role, count); got != want {
				t.Errorf("%s, role %d: %s, not %s", c.label, role, got, want)
			}
		}
	}
}

// P6.1: two marks of one role, both of which exclude types: A, some r A and
// some r not A are the bits 0, 1 and 2.
func TestPossibleOfSeveralMarks(t *testing.T) {
	b, more := based(""), listOf("some r A;all r A")
	const none, even, odd, every = "00000000", "10101010", "01010101", "11111111"
	want := strings.Join([]string{none, none, odd, odd, even, even, every, every}, " ")
	if got := possible(t, b, more, 0, 8); got != want {
		t.Errorf("%s, not %s", got, want)
	}
	const withNot, with = "00001111", "00110011"
	want = strings.Join([]string{withNot, with, withNot, with, withNot, with, withNot, with}, " ")
	if got := possible(t, b, more, 1, 8); got != want {
		t.Errorf("the inverse: %s, not %s", got, want)
	}
}

// P6.1 (and R1, R2): numbers that are not roles, numbers that are not types,
// and too many marks between them.
func TestPossibleErrors(t *testing.T) {
	b := based("A < some r A")
	check := func(label string, b api.Base, more []api.Concept, r, x, y int, want api.Errno) {
		t.Helper()
		is, e := types.Possible(b, more, r, x, y)
		expect(t, label, is, e, want == api.OK, want)
	}
	check("the last role and the last type", b, nil, 5, 3, 3, api.OK)
	for _, number := range append(farNumbers(), -2, 4, 5, 8) {
		check("no type", b, nil, 0, number, 0, api.ErrArg)
		check("no type", b, nil, 0, 0, number, api.ErrArg)
		check("no type", b, nil, 5, number, number, api.ErrArg)
		check("no type beside too many marks", crowded(), nil, 0, number, 0, api.ErrSpace)
		check("no type beside too many marks", crowded(), nil, 0, 0, number, api.ErrSpace)
	}
	for _, role := range append(farNumbers(), -2, 6, 7, 12) {
		check("no role", b, nil, role, 0, 0, api.ErrArg)
		check("no role and no type", b, nil, role, -1, 4, api.ErrArg)
		check("no role beside too many marks", crowded(), nil, role, 0, 0, api.ErrArg)
		check("no role, no type, too many marks", crowded(), nil, role, 0, math.MaxInt, api.ErrArg)
		check("no role in more than one way", api.Base{Names: manyNames(0)}, counted(5, 4), 12, 0, 0, api.ErrArg)
	}
	check("no roles", api.Base{}, nil, 0, 0, 0, api.ErrArg)
	check("too many marks", crowded(), nil, 0, 0, 0, api.ErrSpace)
	check("too many marks with further concepts", b, listOf("B;C;some s A;some t A;some r B;some s B;some t B"), 0, 0, 0, api.ErrSpace)

	for _, wrong := range wrongBases() {
		for _, role := range []int{0, 6, -1} {
			for _, more := range [][]api.Concept{nil, {name(3)}, listOf("A;B;C;some r A;some r B;some r C;some s A;some s B;some s C")} {
				check("a wrong knowledge base", wrong, more, role, 0, 0, api.ErrBase)
				check("a wrong knowledge base", wrong, more, role, -1, 256, api.ErrBase)
			}
		}
	}
	for _, wrong := range wrongConcepts() {
		for _, role := range []int{0, 6, -1} {
			for _, base := range []api.Base{b, crowded()} {
				check("a wrong concept", base, []api.Concept{wrong}, role, 0, 0, api.ErrConcept)
				check("a wrong concept", base, []api.Concept{name(0), wrong}, role, -1, 256, api.ErrConcept)
			}
		}
	}
}

// P6.1: the types of MaxMarks marks: four names, some r top, some r- top,
// some s top and some s- top, which are the bits 4 to 7.
func TestPossibleOfManyTypes(t *testing.T) {
	b, more := api.Base{Names: manyNames(0)}, counted(4, 4)
	for _, c := range []struct {
		role, x, y int
		want       bool
	}{
		{0, 255, 255, true}, {0, 16, 32, true}, {0, 32, 16, false}, {0, 31, 47, true}, {0, 239, 255, false}, {0, 255, 223, false}, {0, 16, 15, false},
		{1, 255, 255, true}, {1, 32, 16, true}, {1, 16, 32, false}, {1, 15, 16, false},
		{2, 64, 128, true}, {2, 128, 64, false}, {3, 128, 64, true}, {3, 64, 128, false}, {3, 255, 191, false},
		{4, 0, 0, true}, {11, 0, 255, true},
	} {
		is, e := types.Possible(b, more, c.role, c.x, c.y)
		expect(t, shown(c), is, e, c.want, api.OK)
	}
	for _, number := range []int{256, 257, 511} {
		for _, ends := range [][2]int{{number, 0}, {0, number}} {
			is, e := types.Possible(b, more, 0, ends[0], ends[1])
			expect(t, "no type", is, e, false, api.ErrArg)
		}
	}
}
