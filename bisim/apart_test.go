package bisim_test

import (
	"math"
	"math/rand"
	"slices"
	"testing"

	"isagoge/api"
	"isagoge/bisim"
	"isagoge/concept"
)

// checkApart checks the concepts that Apart returns for all pairs of elements
// of i, and returns how many pairs it told apart, and for how many it gave up.
func checkApart(t *testing.T, n api.Names, i api.Interp) (told, gaveUp int) {
	t.Helper()
	class := classes(i)
	for x := range i.Size {
		for y := range i.Size {
			c, found, e := bisim.Apart(n, i, x, y)
			right := e == api.OK && found && concept.Check(n, c) == api.OK && belongs(n, i, c, x) && !belongs(n, i, c, y)
			switch {
			case class[x] == class[y]:
				right = e == api.OK && !found && shown(c) == shown(api.Concept{})
			case e == api.ErrLarge && i.Size > 4:
				right = !found && shown(c) == shown(api.Concept{})
				gaveUp++
			default:
				told++
			}
			if !right {
				t.Errorf("Apart of %d and %d of %v: %s, %v, error %d", x, y, i, text(n, c), found, e)
			}
		}
	}
	return told, gaveUp
}

// P4.3: the chapter's example, and elements that names, roles and inverses
// alone tell apart.
func TestApart(t *testing.T) {
	for _, i := range []api.Interp{
		fork(),
		{Size: 1, Concepts: [][]int{nil}, Roles: [][][2]int{nil}},
		{Size: 2, Concepts: [][]int{{0}}, Roles: [][][2]int{nil}},
		{Size: 2, Concepts: [][]int{nil}, Roles: [][][2]int{{{0, 0}}}},
		{Size: 3, Concepts: [][]int{nil}, Roles: [][][2]int{{{2, 0}}}},
		{Size: 3, Concepts: [][]int{nil}, Roles: [][][2]int{{{0, 2}}}},
		path(4), path(3),
	} {
		checkApart(t, plain(), i)
	}
	c, found, e := bisim.Apart(plain(), fork(), 0, 1)
	if s := text(plain(), c); s != "not A" || !found || e != api.OK {
		t.Errorf("Apart of the example: %s, %v, error %d", s, found, e)
	}
}

// P4.3: all interpretations of a concept name and a role with at most three
// elements, and random ones with at most four: none of them is too large.
func TestApartOfSmall(t *testing.T) {
	for size := 1; size <= 3; size++ {
		eachPlain(size, func(i api.Interp) { checkApart(t, plain(), i) })
	}
	r := rand.New(rand.NewSource(11))
	many := api.Names{Roles: []string{"p", "q", "r", "s", "t", "u"}}
	for round := range 6000 {
		n := []api.Names{names(), plain(), many}[round%3]
		checkApart(t, n, randomInterp(r, n, 4))
	}
}

// P4.3: four elements of one role that names do not tell apart, all of them.
func TestApartOfFour(t *testing.T) {
	for choice := range 1 << 16 {
		if choice%5 != 0 {
			continue
		}
		checkApart(t, plain(), built(plain(), 4, func(int, int) bool { return false }, func(_, x, y int) bool { return choice>>(4*x+y)&1 == 1 }))
	}
}

// P4.3: more elements: a concept, or ErrLarge.
func TestApartOfMore(t *testing.T) {
	r := rand.New(rand.NewSource(12))
	told := 0
	for range 300 {
		found, _ := checkApart(t, names(), randomInterp(r, names(), 9))
		told += found
	}
	if told < 1000 {
		t.Errorf("only %d pairs were told apart", told)
	}
	found, gaveUp := checkApart(t, plain(), path(48))
	if found < 2000 || gaveUp < 10 {
		t.Errorf("%d pairs of a path were told apart, %d not", found, gaveUp)
	}
}

// tower has levels of four elements; from each one but the lowest, r leads to
// elements of the level below: from the first one to the first one, from the
// second one to the second and the third one, and so on. What tells the first
// one and the second one apart consists of twice as many parts at each level.
func tower(levels int) api.Interp {
	below := [][]int{{0}, {1, 2}, {1, 3}, {2, 3}}
	n := api.Names{Concepts: []string{"A", "B", "C"}, Roles: []string{"r"}}
	return built(n, 4*levels,
		func(name, x int) bool { return x == name },
		func(_, x, y int) bool { return x/4 == y/4+1 && slices.Contains(below[x%4], y%4) })
}

// P4.3: a concept that would be too deep, and one that would have exponentially
// many nodes.
func TestApartOfLarge(t *testing.T) {
	n := api.Names{Concepts: []string{"A", "B", "C"}, Roles: []string{"r"}}
	for level := range 64 {
		i := tower(64)
		c, found, e := bisim.Apart(n, i, 4*level, 4*level+1)
		switch {
		case e == api.ErrLarge && level > 5:
			if found || shown(c) != shown(api.Concept{}) {
				t.Errorf("level %d: %v, %v, error %d", level, c, found, e)
			}
		case !found || e != api.OK || !belongs(n, i, c, 4*level) || belongs(n, i, c, 4*level+1):
			t.Errorf("level %d: %s, %v, error %d", level, text(n, c), found, e)
		case level > 10 && level < 50:
			t.Errorf("level %d: %s is short", level, text(n, c))
		}
	}
	c, found, e := bisim.Apart(plain(), path(256), 100, 99)
	if found || e != api.ErrLarge || shown(c) != shown(api.Concept{}) {
		t.Errorf("a long path: %s, %v, error %d", text(plain(), c), found, e)
	}
}

// P4.3: ErrArg for numbers that are not elements.
func TestApartArguments(t *testing.T) {
	for _, x := range []int{math.MinInt, -1, 0, 2, 3, 4, math.MaxInt} {
		for _, y := range []int{math.MinInt, -1, 0, 2, 3, 4, math.MaxInt} {
			if slices.Contains([]int{0, 2}, x) && slices.Contains([]int{0, 2}, y) {
				continue
			}
			c, found, e := bisim.Apart(plain(), fork(), x, y)
			if found || e != api.ErrArg || shown(c) != shown(api.Concept{}) {
				t.Errorf("Apart of %d and %d: %v, %v, error %d", x, y, c, found, e)
			}
		}
	}
}
