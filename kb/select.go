package kb

import (
	"slices"

	"isagoge/api"
)

// Only returns the knowledge base with the names of b that has only the axioms
// with the given numbers.
func Only(b api.Base, axioms []int) (api.Base, api.Errno) {
	if e := Check(b); e != api.OK {
		return api.Base{}, e
	}
	all := statements(b)
	selected := api.Base{Names: copied(b.Names)}
	last := -1
	for _, k := range axioms {
		if k <= last || k >= len(all) {
			return api.Base{}, api.ErrArg
		}
		add(&selected, all[k])
		last = k
	}
	return selected, api.OK
}

// Line returns the line of the axiom with the given number, without its line
// feed.
func Line(b api.Base, axiom int) (string, api.Errno) {
	if e := Check(b); e != api.OK {
		return "", e
	}
	all := statements(b)
	if !below(len(all), axiom) {
		return "", api.ErrArg
	}
	return all[axiom].line(b.Names), api.OK
}

// Join returns the knowledge base with the axioms of both: of each kind first
// those of a, then those of b.
func Join(a, b api.Base) (api.Base, api.Errno) {
	if Check(a) != api.OK || Check(b) != api.OK {
		return api.Base{}, api.ErrBase
	}
	if !sameNames(a.Names, b.Names) {
		return api.Base{}, api.ErrArg
	}
	joined := api.Base{Names: copied(a.Names)}
	for _, x := range slices.Concat(statements(a), statements(b)) {
		add(&joined, x)
	}
	if Check(joined) != api.OK {
		return api.Base{}, api.ErrLarge
	}
	return joined, api.OK
}

// copied returns names equal to n that share no slice with it.
func copied(n api.Names) api.Names {
	return api.Names{
		Concepts: slices.Clone(n.Concepts),
		Roles:    slices.Clone(n.Roles),
		Inds:     slices.Clone(n.Inds),
	}
}

func sameNames(n, m api.Names) bool {
	return slices.Equal(n.Concepts, m.Concepts) && slices.Equal(n.Roles, m.Roles) && slices.Equal(n.Inds, m.Inds)
}
