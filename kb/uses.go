package kb

import (
	"slices"

	"isagoge/api"
	"isagoge/concept"
)

// Uses returns the concept names, role names and individuals that occur in
// axioms of b, in increasing order.
func Uses(b api.Base) (concepts, roles, inds []int, e api.Errno) {
	if e := Check(b); e != api.OK {
		return nil, nil, nil, e
	}
	for _, c := range parts(b) {
		names, roleNames, _ := concept.Uses(b.Names, c)
		concepts = append(concepts, names...)
		roles = append(roles, roleNames...)
	}
	for _, x := range b.Roles {
		roles = append(roles, x.Sub/2, x.Super/2)
	}
	for _, x := range b.Facts {
		inds = append(inds, x.Ind)
	}
	for _, x := range b.Links {
		roles = append(roles, x.Role)
		inds = append(inds, x.From, x.To)
	}
	return ascending(concepts), ascending(roles), ascending(inds), api.OK
}

// ascending sorts a list in place and returns it without duplicates.
func ascending(list []int) []int {
	slices.Sort(list)
	return slices.Compact(list)
}
