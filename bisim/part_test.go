package bisim_test

import (
	"math"
	"math/rand"
	"slices"
	"testing"

	"isagoge/api"
	"isagoge/bisim"
)

// kept returns the elements of the part, by the definition: in increasing
// order, those of from and of the individuals, and whatever is at one end of a
// pair that has one of them at its other end.
func kept(i api.Interp, from []int) []int {
	list := slices.Concat(from, i.Inds)
	for changed := true; changed; {
		changed = false
		for _, pairs := range i.Roles {
			for _, p := range pairs {
				if slices.Contains(list, p[0]) != slices.Contains(list, p[1]) {
					list = append(list, p[0], p[1])
					changed = true
				}
			}
		}
	}
	slices.Sort(list)
	return slices.Compact(list)
}

// part returns the part, by the definition.
func part(n api.Names, i api.Interp, from []int) api.Interp {
	list := kept(i, from)
	var inds []int
	for _, x := range i.Inds {
		inds = append(inds, slices.Index(list, x))
	}
	return built(n, len(list),
		func(name, x int) bool { return named(i, name, list[x]) },
		func(role, x, y int) bool { return isPair(i, 2*role, list[x], list[y]) }, inds...)
}

// islands is an interpretation of names: 0 and 4, 1 alone, 2 and 5 and 6, and 3
// and 7 are connected.
func islands() api.Interp {
	return api.Interp{
		Size:     8,
		Concepts: [][]int{{0, 2, 3, 5}, {1, 7}},
		Roles:    [][][2]int{{{4, 0}, {4, 4}, {5, 2}}, {{3, 7}, {5, 6}, {6, 5}, {7, 7}}},
		Inds:     []int{4, 4},
	}
}

// P4.2: from nothing but the individuals, from elements along roles and against
// them, unordered and repeated, and all.
func TestPart(t *testing.T) {
	island := api.Interp{Size: 2, Concepts: [][]int{{0}, nil}, Roles: [][][2]int{{{1, 0}, {1, 1}}, nil}, Inds: []int{1, 1}}
	two := api.Interp{Size: 5, Concepts: [][]int{{0, 1, 3}, nil}, Roles: [][][2]int{{{2, 0}, {2, 2}, {3, 1}}, {{3, 4}, {4, 3}}}, Inds: []int{2, 2}}
	for _, c := range []struct {
		from []int
		want api.Interp
	}{
		{nil, island}, {[]int{}, island}, {[]int{0}, island}, {[]int{4, 0, 4}, island},
		{[]int{2}, two}, {[]int{5}, two}, {[]int{6}, two}, {[]int{6, 2, 2, 5, 0, 6}, two},
		{[]int{1}, api.Interp{Size: 3, Concepts: [][]int{{0}, {1}}, Roles: [][][2]int{{{2, 0}, {2, 2}}, nil}, Inds: []int{2, 2}}},
		{[]int{7}, api.Interp{Size: 4, Concepts: [][]int{{0, 1}, {3}}, Roles: [][][2]int{{{2, 0}, {2, 2}}, {{1, 3}, {3, 3}}}, Inds: []int{2, 2}}},
		{[]int{3, 1, 2}, islands()}, {[]int{7, 6, 5, 4, 3, 2, 1, 0}, islands()}, {slices.Repeat([]int{1, 7, 2}, 200), islands()},
	} {
		got, e := bisim.Part(names(), islands(), c.from)
		expect(t, "Part from "+shown(c.from), got, e, c.want, api.OK)
	}
}

// P4.2: without individuals, and from the ends of a path with the largest
// number of elements.
func TestPartWithoutInds(t *testing.T) {
	for _, from := range [][]int{{0}, {255}, {100, 3}} {
		got, e := bisim.Part(plain(), path(256), from)
		expect(t, "Part of a path", got, e, path(256), api.OK)
	}
	got, e := bisim.Part(api.Names{}, api.Interp{Size: 256}, []int{255, 7, 7, 255})
	expect(t, "Part of 256", got, e, api.Interp{Size: 2}, api.OK)
	n := api.Names{Inds: []string{"a", "b", "c"}}
	got, e = bisim.Part(n, api.Interp{Size: 9, Inds: []int{8, 3, 8}}, nil)
	expect(t, "Part of individuals", got, e, api.Interp{Size: 2, Inds: []int{1, 0, 1}}, api.OK)
}

// P4.2, P4.5: random parts as the definition says, and elements that are
// bisimilar to their copies.
func TestPartByDefinition(t *testing.T) {
	r := rand.New(rand.NewSource(10))
	smaller := 0
	for round := range 600 {
		n := []api.Names{names(), plain()}[round%2]
		i := randomInterp(r, n, 9)
		from := []int{r.Intn(i.Size), r.Intn(i.Size)}[:1+r.Intn(2)]
		got, e := bisim.Part(n, i, from)
		expect(t, "Part of "+shown(i)+" from "+shown(from), got, e, part(n, i, from), api.OK)
		if got.Size < i.Size {
			smaller++
		}
		for place, x := range kept(i, from) {
			same, e := bisim.Bisimilar(n, i, got, x, place)
			expect(t, "Bisimilar of "+shown(i)+" and its part", same, e, true, api.OK)
		}
	}
	if smaller < 100 {
		t.Errorf("only %d parts were smaller", smaller)
	}
}

// P4.2: ErrArg for numbers that are not elements, and if there is nothing to
// begin with.
func TestPartArguments(t *testing.T) {
	for _, x := range []int{math.MinInt, -8, -1, 8, 9, 256, math.MaxInt} {
		for _, from := range [][]int{{x}, {0, x}, {x, 0}, {1, 2, x, 3}} {
			got, e := bisim.Part(names(), islands(), from)
			expect(t, "Part from "+shown(from), got, e, api.Interp{}, api.ErrArg)
		}
	}
	for _, from := range [][]int{nil, {}} {
		got, e := bisim.Part(plain(), fork(), from)
		expect(t, "Part from nothing", got, e, api.Interp{}, api.ErrArg)
	}
}
