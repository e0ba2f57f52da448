package marks_test

import (
	"reflect"
	"slices"
	"testing"

	"isagoge/api"
	"isagoge/concept"
	"isagoge/kb"
	"isagoge/marks"
)

func based(axioms string) api.Base {
	b, e := kb.Parse("concept A\nconcept B\nrole r\nind a\n" + axioms)
	if e != api.OK {
		panic(axioms)
	}
	return b
}

func of(s string) api.Concept {
	c, e := concept.Parse(based("").Names, s)
	if e != api.OK {
		panic(s)
	}
	return c
}

func tableOf(t *testing.T, b api.Base, more ...api.Concept) *marks.Table {
	t.Helper()
	table, e := marks.Of(b, more)
	if e != api.OK {
		t.Fatalf("error %d", e)
	}
	return table
}

// The tests of package hier are about the marks of all kinds of knowledge
// bases, and about truth; these are about what is not seen there.
func TestTypes(t *testing.T) {
	table := tableOf(t, based("A < all r B\n"))
	if want := []api.Concept{of("A"), of("B"), of("some r not B")}; !reflect.DeepEqual(table.Marks(), want) {
		t.Errorf("the marks are %v", table.Marks())
	}
	for _, c := range []struct {
		s    string
		want []marks.Type
	}{
		{"top", []marks.Type{0, 1, 2, 3, 4, 5, 6, 7}},
		{"bot", nil},
		{"A", []marks.Type{1, 3, 5, 7}},
		{"not B", []marks.Type{0, 1, 4, 5}},
		{"(A and B)", []marks.Type{3, 7}},
		{"(A or B)", []marks.Type{1, 2, 3, 5, 6, 7}},
		{"some r not B", []marks.Type{4, 5, 6, 7}},
		{"all r B", []marks.Type{0, 1, 2, 3}},
		{"not all r B", []marks.Type{4, 5, 6, 7}},
	} {
		if got := slices.Collect(table.True(of(c.s)).All()); !table.Covers(of(c.s)) || !slices.Equal(got, c.want) {
			t.Errorf("%s is true in %v, not in %v", c.s, got, c.want)
		}
	}
	if got := slices.Collect(table.Types().All()); len(got) != 8 || got[7] != 7 {
		t.Errorf("the types are %v", got)
	}
	for _, s := range []string{"some r B", "all r not B", "(A and some r- not B)", "(top or some r top)"} {
		if table.Covers(of(s)) {
			t.Errorf("%s is covered", s)
		}
	}
}

// A mark that is too deep for a concept is among the marks.
func TestLargeMarks(t *testing.T) {
	c := of("A")
	for range 18 {
		c = api.Concept{Op: api.CAnd, Args: []api.Concept{of("top"), c}}
	}
	c = api.Concept{Op: api.CAll, N: 1, Args: []api.Concept{c}}
	table := tableOf(t, based(""), of("B"), c)
	list := table.Marks()
	if len(list) != 3 || concept.Check(based("").Names, list[2]) != api.ErrConcept {
		t.Fatalf("the marks are %v", list)
	}
	if got := slices.Collect(table.True(list[2].Args[0]).All()); !slices.Equal(got, []marks.Type{0, 2, 4, 6}) {
		t.Errorf("the concept inside is true in %v", got)
	}
	if got := slices.Collect(table.True(c).All()); !slices.Equal(got, []marks.Type{0, 1, 2, 3}) {
		t.Errorf("the concept itself is true in %v", got)
	}
}
