package bisim_test

import (
	"math"
	"math/rand"
	"slices"
	"testing"

	"isagoge/api"
	"isagoge/bisim"
)

func checkClasses(t *testing.T, n api.Names, i api.Interp, want []int) {
	t.Helper()
	got, e := bisim.Classes(n, i)
	expect(t, "Classes of "+shown(i), got, e, want, api.OK)
}

// P4.1: the chapter's example, and elements that concept names, roles or
// inverses alone tell apart.
func TestClasses(t *testing.T) {
	checkClasses(t, plain(), fork(), []int{0, 1, 1})
	for _, c := range []struct {
		a     []int
		pairs [][2]int
		want  []int
	}{
		{nil, nil, []int{0, 0, 0, 0}},
		{[]int{0, 1, 2, 3}, nil, []int{0, 0, 0, 0}},
		{[]int{1, 3}, nil, []int{0, 1, 0, 1}},
		{[]int{0}, nil, []int{0, 1, 1, 1}},
		{nil, [][2]int{{1, 1}}, []int{0, 1, 0, 0}},
		{nil, [][2]int{{1, 2}}, []int{0, 1, 2, 0}},
		{nil, [][2]int{{0, 1}, {2, 3}}, []int{0, 1, 0, 1}},
		{nil, [][2]int{{0, 0}, {1, 2}, {2, 1}, {3, 1}, {3, 2}}, []int{0, 1, 1, 2}},
		{nil, [][2]int{{0, 0}, {1, 2}, {2, 3}, {3, 1}}, []int{0, 0, 0, 0}},
		{nil, [][2]int{{0, 1}, {1, 2}, {2, 3}}, []int{0, 1, 2, 3}},
		{nil, [][2]int{{0, 1}, {2, 1}, {2, 3}}, []int{0, 1, 0, 1}},
		{[]int{3}, [][2]int{{2, 0}, {3, 1}}, []int{0, 1, 2, 3}},
		{[]int{3}, [][2]int{{0, 2}, {1, 3}}, []int{0, 1, 2, 3}},
	} {
		checkClasses(t, plain(), api.Interp{Size: 4, Concepts: [][]int{c.a}, Roles: [][][2]int{c.pairs}}, c.want)
	}
	checkClasses(t, plain(), api.Interp{Size: 1, Concepts: [][]int{nil}, Roles: [][][2]int{nil}}, []int{0})
	checkClasses(t, api.Names{}, api.Interp{Size: 1}, []int{0})
	checkClasses(t, api.Names{}, api.Interp{Size: 256}, make([]int, 256))
}

// P4.1: two concept names, and two roles, are different, and individuals tell
// nothing apart.
func TestClassesOfNames(t *testing.T) {
	checkClasses(t, names(), api.Interp{Size: 5, Concepts: [][]int{{1, 3}, {2, 3}}, Roles: make([][][2]int, 2), Inds: []int{4, 1}}, []int{0, 1, 2, 3, 0})
	checkClasses(t, names(), api.Interp{Size: 4, Concepts: make([][]int, 2), Roles: [][][2]int{{{0, 0}, {2, 2}}, {{1, 1}, {2, 2}}}, Inds: []int{0, 0}}, []int{0, 1, 2, 3})
	n := api.Names{}
	i := api.Interp{Size: 17, Inds: nil}
	var want []int
	for k := range 16 {
		n.Concepts = append(n.Concepts, "A"+string(rune('a'+k)))
		i.Concepts = append(i.Concepts, []int{16 - k})
		want = append(want, k)
	}
	checkClasses(t, n, i, append(want, 16))
}

// P4.1: each class may be the only one that tells elements apart by their pairs:
// 16 elements have a name each, 16 have a pair with one of these each.
func TestClassesOfEnds(t *testing.T) {
	n := api.Names{Roles: []string{"r"}}
	for k := range 16 {
		n.Concepts = append(n.Concepts, "A"+string(rune('a'+k)))
	}
	var each []int
	for x := range 33 {
		each = append(each, x)
	}
	belongs := func(name, x int) bool { return x == name }
	checkClasses(t, n, built(n, 33, belongs, func(_, x, y int) bool { return x == y+16 && y < 16 }), each)
	checkClasses(t, n, built(n, 33, belongs, func(_, x, y int) bool { return y == x+16 && x < 16 }), each)
}

// P4.1: elements that only many steps tell apart, up to 256 classes.
func TestClassesOfPaths(t *testing.T) {
	for _, size := range []int{2, 3, 7, 8, 9, 128, 129, 255, 256} {
		var each []int
		for x := range size {
			each = append(each, x)
		}
		checkClasses(t, plain(), path(size), each)
	}
	ring := path(256)
	ring.Roles[0] = append(ring.Roles[0], [2]int{255, 0})
	checkClasses(t, plain(), ring, make([]int, 256))
	ring.Concepts[0] = []int{0, 64, 128, 192}
	want := make([]int, 256)
	for x := range 256 {
		want[x] = x % 64
	}
	checkClasses(t, plain(), ring, want)
}

// P4.1: all interpretations of a concept name and a role with at most three
// elements, and random ones, as the definition says.
func TestClassesByDefinition(t *testing.T) {
	for size := 1; size <= 3; size++ {
		eachPlain(size, func(i api.Interp) { checkClasses(t, plain(), i, classes(i)) })
	}
	r := rand.New(rand.NewSource(1))
	for range 1500 {
		i := randomInterp(r, names(), 9)
		checkClasses(t, names(), i, classes(i))
	}
}

// P4.1: Bisimilar of elements of one interpretation and of two, as the
// definition says.
func TestBisimilar(t *testing.T) {
	r := rand.New(rand.NewSource(2))
	bare := api.Names{Concepts: []string{"A"}, Roles: []string{"r", "s"}, Inds: []string{"a"}}
	var counts [2]int
	for round := range 900 {
		n := []api.Names{plain(), bare, names()}[round%3]
		i, k := randomInterp(r, n, 4), randomInterp(r, n, 6)
		if round%2 == 0 {
			k = i
		}
		for x, row := range bisimulation(i, k) {
			for y, want := range row {
				got, e := bisim.Bisimilar(n, i, k, x, y)
				expect(t, "Bisimilar of "+shown(i)+" and "+shown(k), got, e, want, api.OK)
				if want {
					counts[1]++
				} else {
					counts[0]++
				}
			}
		}
	}
	if min(counts[0], counts[1]) < 1000 {
		t.Errorf("bisimilar or not: %v", counts)
	}
}

// P4.1: all pairs of interpretations of a concept name and a role with two
// elements.
func TestBisimilarOfSmall(t *testing.T) {
	eachPlain(2, func(i api.Interp) {
		eachPlain(2, func(k api.Interp) {
			for x, row := range bisimulation(i, k) {
				for y, want := range row {
					got, e := bisim.Bisimilar(plain(), i, k, x, y)
					expect(t, "Bisimilar of "+shown(i)+" and "+shown(k), got, e, want, api.OK)
				}
			}
		})
	})
}

// P4.1: interpretations that have more elements together than one may have, and
// of different sizes.
func TestBisimilarOfLarge(t *testing.T) {
	long, ring := path(256), path(256)
	ring.Roles[0] = append(ring.Roles[0], [2]int{255, 0})
	loop := api.Interp{Size: 1, Concepts: [][]int{nil}, Roles: [][][2]int{{{0, 0}}}}
	for _, c := range []struct {
		i, k api.Interp
		x, y int
		want bool
	}{
		{long, long, 0, 0, true}, {long, long, 255, 255, true}, {long, long, 17, 17, true}, {long, long, 128, 127, false}, {long, long, 0, 255, false},
		{long, path(255), 254, 254, false}, {long, path(255), 0, 0, false}, {path(255), long, 0, 0, false},
		{long, ring, 100, 100, false}, {ring, ring, 0, 255, true}, {ring, loop, 200, 0, true}, {loop, ring, 0, 255, true}, {long, loop, 128, 0, false},
	} {
		got, e := bisim.Bisimilar(plain(), c.i, c.k, c.x, c.y)
		expect(t, "Bisimilar", got, e, c.want, api.OK)
	}
}

// P4.1: ErrArg for numbers that are not elements, each of its own
// interpretation.
func TestBisimilarArguments(t *testing.T) {
	i, k := path(2), path(3)
	for _, x := range []int{math.MinInt, -1, 0, 1, 2, 3, math.MaxInt} {
		for _, y := range []int{math.MinInt, -3, -2, -1, 0, 2, 3, 4, math.MaxInt} {
			want := api.ErrArg
			if 0 <= x && x < 2 && 0 <= y && y < 3 {
				want = api.OK
			}
			got, e := bisim.Bisimilar(plain(), i, k, x, y)
			if e != want || e != api.OK && got {
				t.Errorf("Bisimilar of %d and %d: %v, error %d, not %d", x, y, got, e, want)
			}
		}
	}
}

// P4.4: bisimilar elements belong to the same concepts.
func TestInvariance(t *testing.T) {
	r := rand.New(rand.NewSource(3))
	met := 0
	for round := range 300 {
		i := randomInterp(r, names(), 4)
		k := renumbered(i, r.Perm(i.Size))
		if round%4 == 0 {
			k = randomInterp(r, names(), 4)
		}
		c := randomConcept(r, 5)
		for x := range i.Size {
			for y := range k.Size {
				same, e := bisim.Bisimilar(names(), i, k, x, y)
				if same && belongs(names(), i, c, x) != belongs(names(), k, c, y) || e != api.OK {
					t.Errorf("%s has one of %d of %v and %d of %v, error %d", text(names(), c), x, i, y, k, e)
				}
				if same {
					met++
				}
			}
		}
	}
	if met < 100 {
		t.Errorf("only %d were bisimilar", met)
	}
}

// P4.1: the order of the elements changes nothing but the numbers.
func TestClassesOfRenumbered(t *testing.T) {
	r := rand.New(rand.NewSource(4))
	for range 300 {
		i := randomInterp(r, names(), 8)
		order := r.Perm(i.Size)
		k := renumbered(i, order)
		list, _ := bisim.Classes(names(), i)
		again, e := bisim.Classes(names(), k)
		for x := range k.Size {
			for y := range k.Size {
				if e != api.OK || (again[x] == again[y]) != (list[order[x]] == list[order[y]]) {
					t.Errorf("Classes of %v: %v; in the order %v: %v, error %d", i, list, order, again, e)
				}
			}
		}
		if !slices.Contains(again, slices.Max(list)) {
			t.Errorf("Classes of %v: %v; in the order %v: %v", i, list, order, again)
		}
	}
}
