package bisim_test

import (
	"math/rand"
	"testing"

	"isagoge/api"
	"isagoge/bisim"
)

// union returns the union, by the definition.
func union(n api.Names, i, k api.Interp) api.Interp {
	return built(n, i.Size+k.Size,
		func(name, x int) bool { return named(i, name, x) || named(k, name, x-i.Size) },
		func(role, x, y int) bool {
			return isPair(i, 2*role, x, y) || isPair(k, 2*role, x-i.Size, y-i.Size)
		}, i.Inds...)
}

func checkUnion(t *testing.T, n api.Names, i, k, want api.Interp) {
	t.Helper()
	got, e := bisim.Union(n, i, k)
	expect(t, "Union of "+shown(i)+" and "+shown(k), got, e, want, api.OK)
}

// P4.2: elements and pairs of both, and the individuals of the first one.
func TestUnion(t *testing.T) {
	checkUnion(t, api.Names{}, api.Interp{Size: 1}, api.Interp{Size: 1}, api.Interp{Size: 2})
	checkUnion(t, names(),
		api.Interp{Size: 2, Concepts: [][]int{{0}, nil}, Roles: [][][2]int{{{0, 0}, {1, 0}}, nil}, Inds: []int{1, 1}},
		api.Interp{Size: 3, Concepts: [][]int{{0, 2}, {1}}, Roles: [][][2]int{{{0, 2}}, {{1, 0}, {2, 2}}}, Inds: []int{2, 0}},
		api.Interp{Size: 5, Concepts: [][]int{{0, 2, 4}, {3}}, Roles: [][][2]int{{{0, 0}, {1, 0}, {2, 4}}, {{3, 2}, {4, 4}}}, Inds: []int{1, 1}})
	r := rand.New(rand.NewSource(8))
	for range 300 {
		i, k := randomInterp(r, names(), 6), randomInterp(r, names(), 6)
		checkUnion(t, names(), i, k, union(names(), i, k))
		checkUnion(t, names(), i, i, union(names(), i, i))
	}
}

// P4.2: as many elements as an interpretation may have, and one more.
func TestUnionSize(t *testing.T) {
	for _, sizes := range [][2]int{{1, 255}, {255, 1}, {128, 128}, {100, 156}} {
		i, k := path(sizes[0]), path(sizes[1])
		checkUnion(t, plain(), i, k, union(plain(), i, k))
	}
	for _, sizes := range [][2]int{{1, 256}, {256, 1}, {128, 129}, {256, 256}} {
		got, e := bisim.Union(plain(), path(sizes[0]), path(sizes[1]))
		expect(t, "Union of many", got, e, api.Interp{}, api.ErrLarge)
	}
}

// P4.5: an element and its copy in the union are bisimilar.
func TestUnionCopies(t *testing.T) {
	r := rand.New(rand.NewSource(9))
	for range 150 {
		i, k := randomInterp(r, names(), 5), randomInterp(r, names(), 5)
		u, _ := bisim.Union(names(), i, k)
		for x := range i.Size {
			got, e := bisim.Bisimilar(names(), i, u, x, x)
			expect(t, "Bisimilar of the first one", got, e, true, api.OK)
		}
		for x := range k.Size {
			got, e := bisim.Bisimilar(names(), k, u, x, i.Size+x)
			expect(t, "Bisimilar of the second one", got, e, true, api.OK)
		}
	}
}
