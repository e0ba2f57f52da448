package bisim

import (
	"slices"

	"isagoge/api"
)

// A distinguisher looks for concepts that tell elements of an interpretation
// apart.
type distinguisher struct {
	names  [][]int
	ends   [][][]int
	rounds [][]int
	// left is how many differences may still be looked for. A concept that
	// consists of more of them than it may have nodes is too large, and it can
	// consist of exponentially many.
	left int
}

func distinguisherOf(i api.Interp) *distinguisher {
	ends := endsOf(i)
	return &distinguisher{names: i.Concepts, ends: ends, rounds: roundsOf(i, ends), left: api.MaxNodes}
}

// apartAt returns the number of the first round in which x and y have different
// classes, or -1 if they are bisimilar.
func (d *distinguisher) apartAt(x, y int) int {
	return slices.IndexFunc(d.rounds, func(class []int) bool { return class[x] != class[y] })
}

// difference returns a concept to which x belongs and y does not, if these are
// not bisimilar. It may be a wrong one if left is negative afterwards.
func (d *distinguisher) difference(x, y int) api.Concept {
	d.left--
	round := d.apartAt(x, y)
	if round == 0 || d.left < 0 {
		return d.nameDifference(x, y)
	}
	class := d.rounds[round-1]
	for role, ends := range d.ends {
		if z, found := lone(class, ends[x], ends[y]); found {
			below := combined(api.CAnd, oneOfEach(class, ends[y]), func(other int) api.Concept { return d.difference(z, other) })
			return api.Concept{Op: api.CSome, N: role, Args: []api.Concept{below}}
		}
		if z, found := lone(class, ends[y], ends[x]); found {
			below := combined(api.COr, oneOfEach(class, ends[x]), func(other int) api.Concept { return d.difference(other, z) })
			return api.Concept{Op: api.CAll, N: role, Args: []api.Concept{below}}
		}
	}
	return api.Concept{Op: api.CTop}
}

// nameDifference returns a concept name, or the complement of one, to which x
// belongs and y does not.
func (d *distinguisher) nameDifference(x, y int) api.Concept {
	for name, list := range d.names {
		c := api.Concept{Op: api.CName, N: name}
		has, lacks := slices.Contains(list, x), !slices.Contains(list, y)
		if has && lacks {
			return c
		}
		if !has && !lacks {
			return api.Concept{Op: api.CNot, Args: []api.Concept{c}}
		}
	}
	return api.Concept{Op: api.CTop}
}

// lone returns the first of some elements whose class none of the others has,
// or false if there is none.
func lone(class, elements, others []int) (int, bool) {
	at := slices.IndexFunc(elements, func(z int) bool {
		return !slices.ContainsFunc(others, func(other int) bool { return class[other] == class[z] })
	})
	if at < 0 {
		return 0, false
	}
	return elements[at], true
}

// oneOfEach returns the first element of each class among some elements: a
// concept that tells apart classes of a round, and was found from the rounds
// before, is the same for all elements of a class.
func oneOfEach(class, elements []int) []int {
	var list []int
	for _, x := range elements {
		if !slices.ContainsFunc(list, func(y int) bool { return class[y] == class[x] }) {
			list = append(list, x)
		}
	}
	return list
}

// combined returns the conjunction or the disjunction of the concepts of some
// elements. It branches evenly, so that it is not deep.
func combined(op int, elements []int, conceptOf func(x int) api.Concept) api.Concept {
	switch half := len(elements) / 2; {
	case len(elements) == 0 && op == api.CAnd:
		return api.Concept{Op: api.CTop}
	case len(elements) == 0:
		return api.Concept{Op: api.CBot}
	case len(elements) == 1:
		return conceptOf(elements[0])
	default:
		first, second := combined(op, elements[:half], conceptOf), combined(op, elements[half:], conceptOf)
		return api.Concept{Op: op, Args: []api.Concept{first, second}}
	}
}
