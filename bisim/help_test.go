package bisim_test

import (
	"fmt"
	"math/rand"
	"slices"
	"testing"

	"isagoge/api"
	"isagoge/concept"
	"isagoge/interp"
)

// names has two concept names, two roles and two individuals.
func names() api.Names {
	return api.Names{Concepts: []string{"A", "B"}, Roles: []string{"r", "s"}, Inds: []string{"a", "b"}}
}

// plain has a concept name and a role.
func plain() api.Names {
	return api.Names{Concepts: []string{"A"}, Roles: []string{"r"}}
}

// fork is the interpretation of plain that the chapter has as its example.
func fork() api.Interp {
	return api.Interp{Size: 3, Concepts: [][]int{{1, 2}}, Roles: [][][2]int{{{0, 1}, {0, 2}}}}
}

// built returns the interpretation of n that has the elements and pairs for
// which a function says so.
func built(n api.Names, size int, belongs func(name, x int) bool, linked func(role, x, y int) bool, inds ...int) api.Interp {
	i := api.Interp{Size: size, Inds: inds}
	for name := range n.Concepts {
		var list []int
		for x := range size {
			if belongs(name, x) {
				list = append(list, x)
			}
		}
		i.Concepts = append(i.Concepts, list)
	}
	for role := range n.Roles {
		var list [][2]int
		for x := range size {
			for y := range size {
				if linked(role, x, y) {
					list = append(list, [2]int{x, y})
				}
			}
		}
		i.Roles = append(i.Roles, list)
	}
	return i
}

// named reports whether x belongs to a concept name.
func named(i api.Interp, name, x int) bool {
	return slices.Contains(i.Concepts[name], x)
}

// isPair reports whether (x, y) is a pair of a role.
func isPair(i api.Interp, role, x, y int) bool {
	if role%2 == 1 {
		x, y = y, x
	}
	return slices.Contains(i.Roles[role/2], [2]int{x, y})
}

// belongs reports whether x is an element of c, which is valid.
func belongs(n api.Names, i api.Interp, c api.Concept, x int) bool {
	list, e := interp.Elements(n, c, i)
	if e != api.OK {
		panic(shown(c))
	}
	return slices.Contains(list, x)
}

// bisimulation returns the largest bisimulation between two interpretations:
// pairs are taken out of the relation of all pairs until it is one.
func bisimulation(i, k api.Interp) [][]bool {
	related := make([][]bool, i.Size)
	for x := range related {
		related[x] = slices.Repeat([]bool{true}, k.Size)
	}
	for changed := true; changed; {
		changed = false
		for x := range i.Size {
			for y := range k.Size {
				if related[x][y] && !matches(i, k, x, y, related) {
					related[x][y] = false
					changed = true
				}
			}
		}
	}
	return related
}

// matches reports whether x and y satisfy the conditions of a bisimulation.
func matches(i, k api.Interp, x, y int, related [][]bool) bool {
	for name := range i.Concepts {
		if named(i, name, x) != named(k, name, y) {
			return false
		}
	}
	backwards := func(w, z int) bool { return related[z][w] }
	forwards := func(z, w int) bool { return related[z][w] }
	for role := range 2 * len(i.Roles) {
		if !followed(i, k, role, x, y, forwards) || !followed(k, i, role, y, x, backwards) {
			return false
		}
	}
	return true
}

// followed reports whether for each pair of a role that begins with x there is
// one that begins with y and ends related.
func followed(i, k api.Interp, role, x, y int, related func(z, w int) bool) bool {
	for z := range i.Size {
		met := !isPair(i, role, x, z)
		for w := range k.Size {
			met = met || isPair(k, role, y, w) && related(z, w)
		}
		if !met {
			return false
		}
	}
	return true
}

// classes returns the numbers of the classes of elements, by the definition.
func classes(i api.Interp) []int {
	related := bisimulation(i, i)
	var list []int
	count := 0
	for x := range i.Size {
		first := slices.Index(related[x], true)
		if first == x {
			list = append(list, count)
			count++
		} else {
			list = append(list, list[first])
		}
	}
	return list
}

// randomInterp returns an interpretation of n with at most the given number of
// elements; in one of three, some are copies of others.
func randomInterp(r *rand.Rand, n api.Names, most int) api.Interp {
	size := 1 + r.Intn(most)
	if most > 2 && r.Intn(3) == 0 {
		return copied(n, randomInterp(r, n, most/2), func() int { return r.Intn(size) }, size)
	}
	share := 1 + r.Intn(5)
	var inds []int
	for range n.Inds {
		inds = append(inds, r.Intn(size))
	}
	return built(n, size,
		func(int, int) bool { return r.Intn(share) == 0 },
		func(int, int, int) bool { return r.Intn(share+size/2) == 0 }, inds...)
}

// copied returns an interpretation of n with copies of the elements of i, each
// of one of the places that are given.
func copied(n api.Names, i api.Interp, place func() int, size int) api.Interp {
	var original, inds []int
	for range size {
		original = append(original, place()%i.Size)
	}
	for range n.Inds {
		inds = append(inds, place())
	}
	return built(n, size,
		func(name, x int) bool { return named(i, name, original[x]) },
		func(role, x, y int) bool { return isPair(i, 2*role, original[x], original[y]) }, inds...)
}

// randomConcept returns a concept over names of at most the given depth.
func randomConcept(r *rand.Rand, depth int) api.Concept {
	op := r.Intn(8)
	if depth == 1 {
		op = r.Intn(3)
	}
	c := api.Concept{Op: op}
	arguments := 1
	switch op {
	case api.CName:
		return api.Concept{N: r.Intn(2)}
	case api.CTop, api.CBot:
		return c
	case api.CAnd, api.COr:
		arguments = 2
	case api.CSome, api.CAll:
		c.N = r.Intn(4)
	}
	for range arguments {
		c.Args = append(c.Args, randomConcept(r, depth-1))
	}
	return c
}

// eachPlain calls do with all interpretations of plain that have a size.
func eachPlain(size int, do func(i api.Interp)) {
	bits := size + size*size
	for choice := range 1 << bits {
		do(built(plain(), size,
			func(_, x int) bool { return choice>>x&1 == 1 },
			func(_, x, y int) bool { return choice>>(size+x*size+y)&1 == 1 }))
	}
}

// renumbered returns i with its elements in another order.
func renumbered(i api.Interp, order []int) api.Interp {
	n := api.Names{Concepts: make([]string, len(i.Concepts)), Roles: make([]string, len(i.Roles))}
	var inds []int
	for _, x := range i.Inds {
		inds = append(inds, slices.Index(order, x))
	}
	return built(n, i.Size,
		func(name, x int) bool { return named(i, name, order[x]) },
		func(role, x, y int) bool { return isPair(i, 2*role, order[x], order[y]) }, inds...)
}

// path returns the interpretation of plain with a number of elements from each
// of which r leads to the next one.
func path(size int) api.Interp {
	return built(plain(), size, func(int, int) bool { return false }, func(_, x, y int) bool { return y == x+1 })
}

// text returns a concept over n as a string.
func text(n api.Names, c api.Concept) string {
	s, e := concept.String(n, c)
	if e != api.OK {
		return fmt.Sprintf("%v (error %d)", c, e)
	}
	return s
}

// shown returns a value as a string, in which an empty slice is written as nil
// is.
func shown(v any) string {
	return fmt.Sprintf("%+v", v)
}

// expect checks a result, and its error; with an error, want is the zero
// value.
func expect(t *testing.T, label string, got any, e api.Errno, want any, wantError api.Errno) {
	t.Helper()
	if shown(got) != shown(want) || e != wantError {
		t.Errorf("%s: %v, error %d, not %v, error %d", label, got, e, want, wantError)
	}
}
