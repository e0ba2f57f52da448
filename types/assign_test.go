package types_test

import (
	"strconv"
	"testing"

	"isagoge/api"
	"isagoge/types"
)

// P6.3: the first assignment for the individuals a and b, or nil if there is
// none although types survive.
func TestAssign(t *testing.T) {
	for _, c := range []struct {
		label, axioms, more string
		want                []int
	}{
		{"no axioms", "", "", []int{0, 0}},
		{"a fact", "a : A", "", []int{1, 0}},
		{"a fact about the last one", "b : A", "", []int{0, 1}},
		{"a fact about each", "a : A;b : not A", "", []int{1, 0}},
		{"the same type", "a : A;b : A", "", []int{1, 1}},
		{"the same type by an inclusion", "top < A", "", []int{1, 1}},
		{"several facts about one", "a : A;a : B", "", []int{3, 0}},
		{"several facts about one, in another order", "a : (A or B);a : not A", "", []int{2, 0}},
		{"facts that are opposed", "a : A;a : not A", "", nil},
		{"facts that are opposed, of the last one", "b : not A;b : A", "", nil},
		{"a fact that no type has", "A < bot;b : A", "", nil},
		{"bot", "a : bot", "", nil},
		{"a fact of a mark", "a : some r A", "", []int{2, 0}},
		{"a fact of all", "a : all r A", "", []int{0, 0}},
		{"two facts of marks", "a : some r A;a : all r not A", "", nil},
		{"a type that does not survive", "A < some r B;some r B < bot;a : A", "", nil},

		{"the first of several", "a : (A or B)", "", []int{1, 0}},
		{"the first of several, of both", "a : (B or C);b : (A or C)", "", []int{2, 1}},
		{"not the first for the first one", "a : (A or B);b : not A;(a, b) : r;A < all r A", "", []int{6, 0}},
		{"not the first for the last one", "a : not A;(a, b) : r;b : (A or B);A < all r- A", "", []int{0, 6}},

		{"a link", "(a, b) : r", "", []int{0, 0}},
		{"a link to an A", "(a, b) : r;a : all r A", "", []int{0, 1}},
		{"a link from an A", "(b, a) : r;a : all r- A", "", []int{0, 1}},
		{"a link from the last one", "(b, a) : r;b : all r A", "", []int{1, 0}},
		{"a link to the last one", "(a, b) : r;b : all r- A", "", []int{1, 0}},
		{"a link the other way", "(b, a) : r;a : all r A;b : not A", "", []int{0, 2}},
		{"a link that shows some", "(a, b) : r;b : A;top < all r bot", "", nil},
		{"some that follows from a link", "(a, b) : r;b : A", "some r A", []int{2, 1}},
		{"some of an inverse that follows", "(a, b) : r;a : A", "some r- A", []int{1, 2}},
		{"a link of another role", "(a, b) : s;b : A", "some r A", []int{0, 1}},
		{"a link of a role below", "role s < r;(a, b) : s;b : A", "some r A", []int{2, 1}},
		{"a link of an inverse below", "role s- < r;(b, a) : s;b : A", "some r A", []int{2, 1}},
		{"a link of a role above", "role r < s;(a, b) : s;b : A", "some r A", []int{0, 1}},
		{"a link that is excluded", "(a, b) : r;b : not A;a : all r A", "", nil},
		{"a link that the inverse excludes", "(a, b) : r;a : not A;b : all r- A", "", nil},
		{"a link that a role above excludes", "role r < s;(a, b) : r;b : not A;a : all s A", "", nil},
		{"the second of two links", "(a, b) : r;(a, b) : s;a : all r A;a : all s not A", "", nil},
		{"links in both directions", "(a, b) : r;(b, a) : r;a : all r A;b : all r B", "", []int{2, 7}},

		{"a loop", "(a, a) : r;a : all r A", "", []int{1, 0}},
		{"a loop of the last one", "(b, b) : r;b : all r A", "", []int{0, 1}},
		{"a loop of an inverse", "(a, a) : r;a : all r- A", "", []int{1, 0}},
		{"a loop that shows some", "(b, b) : r;b : A", "some r A", []int{0, 3}},
		{"a loop that is excluded", "(b, b) : r;b : A;b : all r not A", "", nil},
		{"a loop that a role above excludes", "role r < s-;(b, b) : r;b : A;b : all s not A", "", nil},
		{"a loop of the last role", "(b, b) : t;b : all t A", "", []int{0, 1}},
		{"a link of the last role", "(b, a) : t;b : all t A", "", []int{1, 0}},
		{"a link of the last role to the last one", "(a, b) : t;a : all t A", "", []int{0, 1}},
		{"a loop of another role", "(b, b) : s;b : A;b : all r not A", "", []int{0, 1}},
	} {
		wantError := api.OK
		if c.want == nil {
			wantError = api.ErrNone
		}
		got, e := types.Assign(based(c.axioms), listOf(c.more))
		expect(t, c.label, got, e, c.want, wantError)
		if c.more == "" {
			is, e := types.Consistent(based(c.axioms))
			expect(t, c.label, is, e, c.want != nil, api.OK)
		}
		_, e = types.Model(based(c.axioms), listOf(c.more))
		expect(t, c.label, nil, e, nil, wantError)
		if alive, _ := types.Surviving(based(c.axioms), listOf(c.more)); len(alive) == 0 {
			t.Errorf("%s: no type survives", c.label)
		}
	}
}

// P6.3: a circle of three individuals, where an A leads to a B, a B to an
// element that is neither, and that one to an A. Then each of these has one type
// only: 25, 22 and 12, because A, B, some r not B, some r (A or B) and some r
// not A are the bits from 0 on.
func TestAssignOfThree(t *testing.T) {
	const lines = "concept A;concept B;role r;ind a;ind b;ind c;A < (not B and all r B);B < all r not (A or B);not (A or B) < all r A;(a, b) : r;(b, c) : r;(c, a) : r;"
	for _, c := range []struct {
		facts string
		want  []int
	}{
		{"", []int{12, 25, 22}},
		{"a : A", []int{25, 22, 12}},
		{"b : A", []int{12, 25, 22}},
		{"c : A", []int{22, 12, 25}},
		{"a : B", []int{22, 12, 25}},
		{"c : not (A or B)", []int{25, 22, 12}},
		{"a : (A or B)", []int{22, 12, 25}},
		{"a : not B;b : (A or B)", []int{12, 25, 22}},
		{"a : A;b : A", nil},
		{"a : A;c : B", nil},
	} {
		wantError := api.OK
		if c.want == nil {
			wantError = api.ErrNone
		}
		got, e := types.Assign(parsed(lines+c.facts), nil)
		expect(t, c.facts, got, e, c.want, wantError)
		is, e := types.Consistent(parsed(lines + c.facts))
		expect(t, c.facts, is, e, c.want != nil, api.OK)
	}
}

// P6.3: without individuals the empty assignment is the only one, as long as
// some type survives.
func TestWithoutIndividuals(t *testing.T) {
	for _, c := range []struct {
		lines string
		size  int
	}{{"", 1}, {"concept A;top < A", 1}, {"concept A;A < top", 2}, {"concept A;role r;top < some r A", 2}, {"top < bot", 0}, {"concept A;role r;top < some r A;A < bot", 0}} {
		wantError := api.OK
		if c.size == 0 {
			wantError = api.ErrNone
		}
		b := parsed(c.lines)
		chosen, e := types.Assign(b, nil)
		expect(t, c.lines, chosen, e, []int(nil), wantError)
		i, e := types.Model(b, nil)
		expect(t, c.lines, i.Size, e, c.size, wantError)
		is, e := types.Consistent(b)
		expect(t, c.lines, is, e, c.size > 0, api.OK)
	}
}

// limited returns a knowledge base of which as many types survive as are asked
// for, over eight names.
func limited(types, inds int) api.Base {
	b := api.Base{Names: manyNames(inds)}
	// excess is the concept of the types with numbers of at least types, by
	// their bits from the last one on.
	excess := top()
	for k := range 8 {
		if types>>k&1 == 1 {
			excess = and(name(k), excess)
		} else {
			excess = or(name(k), excess)
		}
	}
	if types < 256 {
		b.Incls = []api.Incl{{Sub: excess, Super: bot()}}
	}
	for k := range 8 {
		b.Facts = append(b.Facts, api.Fact{Concept: or(name(k), top())})
	}
	return b
}

// P6.3: numbers of assignments up to 2^20, and more.
func TestManyAssignments(t *testing.T) {
	for _, c := range []struct {
		types, inds int
		want        api.Errno
	}{
		{1, 10, api.OK}, {2, 10, api.OK}, {3, 10, api.OK}, {4, 10, api.OK}, {5, 10, api.ErrSpace}, {4, 9, api.OK}, {5, 9, api.ErrSpace}, {5, 8, api.OK}, {256, 10, api.ErrSpace},
		{16, 5, api.OK}, {17, 5, api.ErrSpace}, {32, 4, api.OK}, {33, 4, api.ErrSpace}, {101, 3, api.OK}, {102, 3, api.ErrSpace}, {256, 2, api.OK}, {256, 3, api.ErrSpace}, {256, 1, api.OK}, {256, 0, api.OK},
	} {
		b := limited(c.types, max(c.inds, 1))
		if c.inds == 0 {
			b.Names.Inds, b.Facts = nil, nil
		}
		label := strconv.Itoa(c.types) + " types, " + strconv.Itoa(c.inds) + " individuals"
		more := counted(8, 0)
		alive, e := types.Surviving(b, more)
		expect(t, label, len(alive), e, c.types, api.OK)
		want, size := make([]int, c.inds), c.types
		if c.want != api.OK {
			want, size = nil, 0
		}
		got, e := types.Assign(b, more)
		expect(t, label, got, e, want, c.want)
		i, e := types.Model(b, more)
		expect(t, label, i.Size, e, size, c.want)
		if c.inds > 0 {
			is, e := types.Consistent(b)
			expect(t, label, is, e, c.want == api.OK, c.want)
		}
	}
}

// P6.3 (and R1): no type, then too many assignments, then no assignment.
func TestWhichErrorOfAssign(t *testing.T) {
	check := func(label string, b api.Base, want api.Errno) {
		t.Helper()
		got, e := types.Assign(b, nil)
		expect(t, label, got, e, []int(nil), want)
		i, e := types.Model(b, nil)
		expect(t, label, i, e, api.Interp{}, want)
		wantError := want
		if want == api.ErrNone {
			wantError = api.OK
		}
		is, e := types.Consistent(b)
		expect(t, label, is, e, false, wantError)
	}
	impossible := api.Incl{Sub: top(), Super: bot()}
	opposed := []api.Fact{{Ind: 9, Concept: name(0)}, {Ind: 9, Concept: not(name(0))}}

	b := limited(5, 10)
	b.Facts = append(b.Facts, opposed...)
	check("too many, and none", b, api.ErrSpace)
	b.Incls = append(b.Incls, impossible)
	check("no types for many individuals", b, api.ErrNone)
	b.Facts = append(b.Facts, api.Fact{Concept: name(8)})
	check("too many marks, and no types", b, api.ErrSpace)

	b = limited(4, 10)
	b.Facts = append(b.Facts, opposed...)
	check("as many as possible, and none", b, api.ErrNone)
	check("too many marks", crowded(), api.ErrSpace)
	check("no types", based("top < bot"), api.ErrNone)
	check("no types", based("A < B;B < not A;top < some r A"), api.ErrNone)
}

// P6.3: the first and the last of ten individuals, between which there are 4^8
// choices for the others, have a link that no types allow.
func TestHardAssignment(t *testing.T) {
	b := api.Base{
		Names: manyNames(10),
		Incls: []api.Incl{{Sub: top(), Super: all(0, not(name(0)))}, {Sub: bot(), Super: name(1)}},
		Facts: []api.Fact{{Ind: 9, Concept: name(0)}},
		Links: []api.Link{{From: 0, To: 9}},
	}
	got, e := types.Assign(b, nil)
	expect(t, "Assign", got, e, []int(nil), api.ErrNone)
	is, e := types.Consistent(b)
	expect(t, "Consistent", is, e, false, api.OK)

	b.Links = []api.Link{{Role: 1, From: 0, To: 9}, {Role: 5, From: 9, To: 8}, {Role: 5, From: 7, To: 7}}
	got, e = types.Assign(b, nil)
	expect(t, "Assign", got, e, []int{0, 0, 0, 0, 0, 0, 0, 0, 0, 1}, api.OK)
}
