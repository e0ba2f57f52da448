package interp

import (
	"cmp"

	"isagoge/api"
	"isagoge/kb"
)

// True reports whether i satisfies the axiom of b with the given number.
func True(b api.Base, i api.Interp, axiom int) (bool, api.Errno) {
	list, e := verdicts(b, i)
	if e != api.OK {
		return false, e
	}
	if axiom < 0 || axiom >= len(list) {
		return false, api.ErrArg
	}
	return list[axiom], api.OK
}

// Models reports whether i is a model of b.
func Models(b api.Base, i api.Interp) (bool, api.Errno) {
	wrong, e := Wrong(b, i)
	return e == api.OK && len(wrong) == 0, e
}

// Wrong returns the numbers of the axioms of b that i does not satisfy, in
// increasing order.
func Wrong(b api.Base, i api.Interp) ([]int, api.Errno) {
	list, e := verdicts(b, i)
	var wrong []int
	for k, satisfied := range list {
		if !satisfied {
			wrong = append(wrong, k)
		}
	}
	return wrong, e
}

// verdicts reports of each axiom of b, at the position of its number, whether
// i satisfies it.
func verdicts(b api.Base, i api.Interp) ([]bool, api.Errno) {
	if e := cmp.Or(kb.Check(b), Check(b.Names, i)); e != api.OK {
		return nil, e
	}
	w := worldOf(i)
	var list []bool
	for _, x := range b.Incls {
		list = append(list, w.includes(x.Sub, x.Super))
	}
	for _, x := range b.Roles {
		list = append(list, w.includesRole(x.Sub, x.Super))
	}
	for _, x := range b.Facts {
		list = append(list, w.elements(x.Concept).Has(w.inds[x.Ind]))
	}
	for _, x := range b.Links {
		list = append(list, w.ends[2*x.Role][w.inds[x.From]].Has(w.inds[x.To]))
	}
	return list, api.OK
}

// includes reports whether all elements of sub are elements of super.
func (w *world) includes(sub, super api.Concept) bool {
	return w.elements(sub).Within(w.elements(super))
}

// includesRole reports whether all pairs of the role sub are pairs of super.
func (w *world) includesRole(sub, super int) bool {
	for x, ends := range w.ends[sub] {
		if !ends.Within(w.ends[super][x]) {
			return false
		}
	}
	return true
}
