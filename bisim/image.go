package bisim

import (
	"cmp"
	"slices"

	"isagoge/api"
)

// gone is the place of an element that is left out.
const gone = -1

// image returns i with its elements moved to their places among size elements.
// Individuals have elements that are not left out, and so have the pairs of
// elements that are not.
func image(i api.Interp, size int, place []int) api.Interp {
	m := api.Interp{Size: size}
	for _, list := range i.Concepts {
		var places []int
		for _, x := range list {
			if place[x] != gone {
				places = append(places, place[x])
			}
		}
		slices.Sort(places)
		m.Concepts = append(m.Concepts, slices.Compact(places))
	}
	for _, pairs := range i.Roles {
		var places [][2]int
		for _, p := range pairs {
			if place[p[0]] != gone {
				places = append(places, [2]int{place[p[0]], place[p[1]]})
			}
		}
		slices.SortFunc(places, comparePairs)
		m.Roles = append(m.Roles, slices.Compact(places))
	}
	for _, x := range i.Inds {
		m.Inds = append(m.Inds, place[x])
	}
	return m
}

func comparePairs(p, q [2]int) int {
	return cmp.Or(cmp.Compare(p[0], q[0]), cmp.Compare(p[1], q[1]))
}

// joined returns the union of two interpretations, also if it has too many
// elements for an interpretation.
func joined(i, k api.Interp) api.Interp {
	size := i.Size + k.Size
	m, second := image(i, size, numbers(0, i.Size)), image(k, size, numbers(i.Size, size))
	for c := range m.Concepts {
		m.Concepts[c] = append(m.Concepts[c], second.Concepts[c]...)
	}
	for r := range m.Roles {
		m.Roles[r] = append(m.Roles[r], second.Roles[r]...)
	}
	return m
}

// numbers returns the numbers from first to limit - 1.
func numbers(first, limit int) []int {
	var list []int
	for x := first; x < limit; x++ {
		list = append(list, x)
	}
	return list
}
