package types_test

import (
	"testing"

	"isagoge/api"
	"isagoge/types"
)

// P6.1: the types that survive. The bits are those of the names that occur,
// and then of the marks some r C in the order of the axioms.
func TestSurviving(t *testing.T) {
	for _, c := range []struct {
		label, axioms, more string
		want                []int
	}{
		{"no axioms", "", "", []int{0}},
		{"no axioms about types", "role r < s-;(a, b) : t", "", []int{0}},
		{"top in bot", "top < bot", "", nil},
		{"bot in top", "bot < top", "", []int{0}},
		{"the example", "A < some r A;some r- A < not A", "", []int{0}},

		{"a name", "A < top", "", []int{0, 1}},
		{"a full name", "top < A", "", []int{1}},
		{"an empty name", "A < bot", "", []int{0}},
		{"both", "top < A;A < bot", "", nil},
		{"names", "A < B", "", []int{0, 2, 3}},
		{"several inclusions", "A < B;B < C", "", []int{0, 4, 6, 7}},
		{"inclusions of not", "not A < B", "", []int{1, 2, 3}},
		{"facts allow all types", "a : A;b : not A", "", []int{0, 1}},
		{"a fact without a type", "A < bot;a : A", "", []int{0}},

		{"a mark", "A < some r B", "", []int{0, 2, 4, 5, 6, 7}},
		{"a mark for all", "top < some r A", "", []int{2, 3}},
		{"a mark that is not there", "top < all r A", "", []int{0, 1}},
		{"a mark of a name", "", "some r A", []int{0, 1, 2, 3}},
		{"a mark of an inverse", "", "some r- A", []int{0, 1, 2, 3}},
		{"a mark of top", "", "some r top", []int{0, 1}},
		{"a mark of bot", "", "some r bot", []int{0}},
		{"a mark of all", "", "all r bot", []int{0, 1}},

		{"dead in the first round", "A < bot", "some r A", []int{0}},
		{"dead in the second round", "A < bot", "some r some r A", []int{0}},
		{"dead with their witnesses", "A < B;A < some r B;B < some s bot", "", []int{0}},
		{"dead in the third round", "A < bot", "some r some s some r A", []int{0}},
		{"all dead after a while", "C < bot;B < some r C;A < some r B;top < some r A", "", nil},
		{"a chain", "A < some r B;B < some r C", "", []int{0, 4, 8, 9, 12, 13, 16, 18, 20, 22, 24, 25, 26, 27, 28, 29, 30, 31}},
		{"a circle", "top < some r A;A < some r not A", "", []int{2, 6, 7}},

		{"witnesses that the inverse excludes", "A < some r B;B < all r- not A", "", []int{0, 2, 4, 6}},
		{"a role above", "role r < s;A < some r B;A < all s not B", "", []int{0, 2, 8, 10, 12, 14}},
	} {
		got, e := types.Surviving(based(c.axioms), listOf(c.more))
		expect(t, c.label, got, e, c.want, api.OK)
	}
}

// P6.1: further concepts add marks behind those of the axioms, and names among
// them.
func TestSurvivingWithMore(t *testing.T) {
	for _, c := range []struct {
		axioms, more string
		want         []int
	}{
		{"B < bot", "A", []int{0, 1}},
		{"A < bot", "B", []int{0, 2}},
		{"A < bot", "B;C", []int{0, 2, 4, 6}},
		{"A < bot", "A;top;bot", []int{0}},
		{"top < A", "some r A", []int{1, 3}},
		{"top < A", "some r not A", []int{1}},
		{"top < A", "not all r A;some r not A", []int{1}},
		{"top < some s A", "some r A", []int{2, 3, 6, 7}},
		{"top < some s A", "some r B", []int{4, 5, 6, 7, 12, 13, 14, 15}},
		{"role r < s;top < all s bot", "some r A", []int{0, 1}},
	} {
		got, e := types.Surviving(based(c.axioms), listOf(c.more))
		expect(t, c.axioms+" with "+c.more, got, e, c.want, api.OK)
	}
}

// P6.1: exactly MaxMarks marks, and one more, in axioms and in further
// concepts.
func TestManyMarks(t *testing.T) {
	for _, c := range []struct {
		names, quantified int
		want              api.Errno
	}{{8, 0, api.OK}, {0, 8, api.OK}, {4, 4, api.OK}, {9, 0, api.ErrSpace}, {0, 9, api.ErrSpace}, {5, 4, api.ErrSpace}, {4, 5, api.ErrSpace}, {16, 12, api.ErrSpace}} {
		l := counted(c.names, c.quantified)
		without, with, half := api.Base{Names: manyNames(1)}, api.Base{Names: manyNames(1)}, api.Base{Names: manyNames(1)}
		for k, x := range l {
			with.Facts = append(with.Facts, api.Fact{Concept: x})
			if k%2 == 0 {
				half.Incls = append(half.Incls, api.Incl{Sub: bot(), Super: x})
			}
		}
		most := 0
		if c.want == api.OK {
			most = 256
		}
		for _, call := range []struct {
			b    api.Base
			more []api.Concept
		}{{without, l}, {with, nil}, {half, l}} {
			got, e := types.Surviving(call.b, call.more)
			expect(t, "Surviving", len(got), e, most, c.want)
			chosen, e := types.Assign(call.b, call.more)
			expect(t, "Assign", len(chosen), e, most/256, c.want)
			i, e := types.Model(call.b, call.more)
			expect(t, "Model", i.Size, e, most, c.want)
			is, e := types.Possible(call.b, call.more, 11, 0, 0)
			expect(t, "Possible", is, e, c.want == api.OK, c.want)
		}
		is, e := types.Consistent(with)
		expect(t, "Consistent", is, e, c.want == api.OK, c.want)
		is, e = types.Satisfiable(with, l[0])
		expect(t, "Satisfiable", is, e, c.want == api.OK, c.want)
	}
}
