// Package marks has the marks of knowledge bases, and the truth of concepts in
// types, for all layers that deal with types.
package marks

import (
	"slices"

	"isagoge/api"
	"isagoge/bitset"
	"isagoge/concept"
	"isagoge/kb"
	"isagoge/tree"
)

// A Table has the marks of a knowledge base with further concepts.
type Table struct {
	names api.Names
	marks []api.Concept
	// place has the position of each mark by its string.
	place map[string]int
	// types are all types, and owners has, for each mark, those that contain it.
	types  Set
	owners []Set
}

// Check returns ErrBase or ErrConcept if b or one of the concepts is not valid.
func Check(b api.Base, concepts []api.Concept) api.Errno {
	if e := kb.Check(b); e != api.OK {
		return e
	}
	for _, c := range concepts {
		if e := concept.Check(b.Names, c); e != api.OK {
			return e
		}
	}
	return api.OK
}

// Of returns the marks of b with further concepts, all of them valid, or
// ErrSpace. Marks that are too large for a concept are among them: a type
// contains only their numbers.
func Of(b api.Base, more []api.Concept) (*Table, api.Errno) {
	t := &Table{names: b.Names, place: map[string]int{}}
	sources := slices.Concat(conceptsOf(b), more)
	for name := range namesIn(sources).All() {
		t.add(api.Concept{Op: api.CName, N: name})
	}
	collect := func(node api.Concept) bool {
		if mark, found := markAt(node); found {
			t.add(mark)
		}
		return len(t.marks) <= api.MaxMarks
	}
	for _, c := range sources {
		if !visit(c, collect) {
			return nil, api.ErrSpace
		}
	}
	t.addTypes()
	return t, api.OK
}

// Marks returns the marks, each at the position of its number.
func (t *Table) Marks() []api.Concept {
	return t.marks
}

// placeOf returns the position of a mark, and false if the table lacks it.
func (t *Table) placeOf(mark api.Concept) (int, bool) {
	place, known := t.place[tree.String(t.names, mark)]
	return place, known
}

// add adds a mark, unless it is there already.
func (t *Table) add(mark api.Concept) {
	if _, known := t.placeOf(mark); !known {
		t.place[tree.String(t.names, mark)] = len(t.marks)
		t.marks = append(t.marks, mark)
	}
}

// conceptsOf returns the concepts that stand in the axioms of b, in their
// order.
func conceptsOf(b api.Base) []api.Concept {
	var list []api.Concept
	for _, x := range b.Incls {
		list = append(list, x.Sub, x.Super)
	}
	for _, x := range b.Facts {
		list = append(list, x.Concept)
	}
	return list
}

// namesIn returns the concept names that occur in some concepts.
func namesIn(list []api.Concept) bitset.Set[int] {
	var names bitset.Set[int]
	collect := func(node api.Concept) bool {
		if node.Op == api.CName {
			names = names.With(node.N)
		}
		return true
	}
	for _, c := range list {
		visit(c, collect)
	}
	return names
}

// visit calls do for the nodes of c in preorder until it returns false, and
// reports whether it never did.
func visit(c api.Concept, do func(node api.Concept) bool) bool {
	if !do(c) {
		return false
	}
	for _, arg := range c.Args {
		if !visit(arg, do) {
			return false
		}
	}
	return true
}

// markAt returns the mark that stands for a name or a quantified concept in
// types, and false for other concepts. A negation above a quantified concept
// leaves its mark as it is: the negation of `some r C` is `all r D`, where D is
// the negation of C, and the mark of that one is `some r C` again. Therefore
// the marks of the negation normal form of a concept, or of its negation, are
// those at the nodes of the concept itself, in the same order.
func markAt(c api.Concept) (api.Concept, bool) {
	switch c.Op {
	case api.CName:
		return api.Concept{Op: api.CName, N: c.N}, true
	case api.CSome, api.CAll:
		inside := tree.Normal(c.Args[0], c.Op == api.CAll)
		return api.Concept{Op: api.CSome, N: c.N, Args: []api.Concept{inside}}, true
	default:
		return api.Concept{}, false
	}
}
