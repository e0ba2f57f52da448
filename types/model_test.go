package types_test

import (
	"math/rand"
	"slices"
	"testing"

	"isagoge/api"
	"isagoge/concept"
	"isagoge/hier"
	"isagoge/interp"
	"isagoge/types"
)

// P6.3: whole type models: their elements are the surviving types in increasing
// order, which the comments list.
func TestModel(t *testing.T) {
	for _, c := range []struct {
		lines, more string
		want        api.Interp
	}{
		// 0
		{"", "", api.Interp{Size: 1}},
		{"concept A;concept B;role r;ind a", "", api.Interp{Size: 1, Concepts: make([][]int, 2), Roles: [][][2]int{{{0, 0}}}, Inds: []int{0}}},
		{"concept A;role r;A < some r A;some r- A < not A", "", api.Interp{Size: 1, Concepts: make([][]int, 1), Roles: [][][2]int{{{0, 0}}}}},
		// 0: nothing, 2: B, 3: A and B
		{"concept A;concept C;concept B;ind a;ind b;ind c;A < B;b : B;c : A", "", api.Interp{Size: 3, Concepts: [][]int{{2}, nil, {1, 2}}, Inds: []int{0, 1, 2}}},
		// 2: some r A, 3: A and some r A
		{"concept A;role r;ind a;top < some r A;a : A", "", api.Interp{Size: 2, Concepts: [][]int{{1}}, Roles: [][][2]int{{{0, 0}, {0, 1}, {1, 0}, {1, 1}}}, Inds: []int{1}}},
		// 0: nothing, 1: A, 2: some r A, 3: A and some r A
		{"concept A;role r;role s;ind a;ind b;role s < r-;b : some r A", "", api.Interp{Size: 4, Concepts: [][]int{{1, 3}}, Inds: []int{0, 2}, Roles: [][][2]int{
			{{0, 0}, {0, 2}, {1, 0}, {1, 2}, {2, 0}, {2, 1}, {2, 2}, {2, 3}, {3, 0}, {3, 1}, {3, 2}, {3, 3}},
			{{0, 0}, {0, 1}, {0, 2}, {0, 3}, {1, 2}, {1, 3}, {2, 0}, {2, 1}, {2, 2}, {2, 3}, {3, 2}, {3, 3}},
		}}},
		// 0: nothing, 4: some r B, 6: some r B and B
		{"concept A;concept B;role r;A < all r not B;A < B;B < some r B", "", api.Interp{Size: 3, Concepts: [][]int{nil, {2}}, Roles: [][][2]int{{{0, 0}, {0, 1}, {1, 0}, {1, 1}, {1, 2}, {2, 0}, {2, 1}, {2, 2}}}}},
	} {
		got, e := types.Model(parsed(c.lines), listOf(c.more))
		expect(t, c.lines, got, e, c.want, api.OK)
	}
}

// P6.3: names that are marks only because of further concepts.
func TestModelWithMore(t *testing.T) {
	b := parsed("concept A;concept B;concept C;role r;role s;role t;ind a")
	got, e := types.Model(b, listOf("B"))
	every := [][2]int{{0, 0}, {0, 1}, {1, 0}, {1, 1}}
	expect(t, "with B", got, e, api.Interp{Size: 2, Concepts: [][]int{nil, {1}, nil}, Roles: [][][2]int{every, every, every}, Inds: []int{0}}, api.OK)
	got, e = types.Model(b, listOf("some s top"))
	expect(t, "with some s top", got, e, api.Interp{Size: 2, Concepts: make([][]int, 3), Roles: [][][2]int{every, {{1, 0}, {1, 1}}, every}, Inds: []int{0}}, api.OK)
}

// P6.3: a model with MaxDomain elements and all pairs of them.
func TestLargeModel(t *testing.T) {
	b := api.Base{Names: manyNames(2), Facts: []api.Fact{{Ind: 1, Concept: bushy(100, name(7))}}}
	i, e := types.Model(b, counted(8, 0))
	expect(t, "Size", i.Size, e, 256, api.OK)
	expect(t, "Check", nil, interp.Check(b.Names, i), nil, api.OK)
	expect(t, "Inds", i.Inds, e, []int{0, 128}, api.OK)
	for k, elements := range i.Concepts {
		want := 128
		if k > 7 {
			want = 0
		}
		expect(t, "elements", len(elements), e, want, api.OK)
	}
	for _, pairs := range i.Roles {
		expect(t, "pairs", len(pairs), e, 1<<16, api.OK)
	}
}

// belonging returns a concept's elements in an interpretation.
func belonging(t *testing.T, b api.Base, c api.Concept, i api.Interp) []int {
	t.Helper()
	l, e := interp.Elements(b.Names, c, i)
	if e != api.OK {
		t.Fatalf("Elements of %s: error %d", shown(c), e)
	}
	return l
}

// sources returns the concepts from which the marks come, and their parts.
func sources(b api.Base, more []api.Concept) []api.Concept {
	l := slices.Clone(more)
	for _, x := range b.Incls {
		l = append(l, x.Sub, x.Super, or(not(x.Sub), x.Super))
	}
	for _, x := range b.Facts {
		l = append(l, x.Concept)
	}
	for _, c := range slices.Clone(l) {
		subs, _ := concept.Subs(b.Names, c)
		l = append(l, subs...)
	}
	return l
}

// P6.4: the type model satisfies all axioms, and an element belongs to the
// concepts that are true in its type.
func TestModelsAreModels(t *testing.T) {
	r := rand.New(rand.NewSource(5))
	models, concepts := 0, 0
	for range 1500 {
		b, more := randomBase(r)
		i, e := types.Model(b, more)
		if e != api.OK {
			continue
		}
		models++
		if wrong, e := interp.Wrong(b, i); e != api.OK || len(wrong) > 0 {
			t.Errorf("%s does not satisfy %v, error %d", text(b, more), wrong, e)
		}
		alive, _ := types.Surviving(b, more)
		if len(alive) != i.Size || len(alive) > 40 {
			continue
		}
		marks, _ := hier.Marks(b, more)
		for _, c := range append(sources(b, more), marks...) {
			concepts++
			elements := belonging(t, b, c, i)
			for x, number := range alive {
				want, e := hier.True(b, more, number, c)
				if got := slices.Contains(elements, x); got != want || e != api.OK {
					t.Errorf("%s, type %d, concept %s: %v, error %d", text(b, more), number, shown(c), got, e)
				}
			}
		}
	}
	if models < 500 || concepts < 5000 {
		t.Errorf("only %d models and %d concepts", models, concepts)
	}
}
