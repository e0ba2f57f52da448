package marks

import (
	"isagoge/api"
	"isagoge/bitset"
)

// A Type is a set of marks, as a number with a bit for each mark.
type Type int

// A Set is a set of types. It has room for all that there are: a type has at
// most MaxMarks bits.
type Set = bitset.Set[Type]

// addTypes adds the types, once all marks are there.
func (t *Table) addTypes() {
	t.types = bitset.Below(Type(1) << len(t.marks))
	t.owners = make([]Set, len(t.marks))
	for place := range t.owners {
		for number := range t.types.All() {
			if number>>place&1 == 1 {
				t.owners[place] = t.owners[place].With(number)
			}
		}
	}
}

// Types returns all types.
func (t *Table) Types() Set {
	return t.types
}

// IsType reports whether a number is that of a type.
func (t *Table) IsType(number int) bool {
	return 0 <= number && number < 1<<len(t.marks)
}

// Covers reports whether marks stand for all names and quantified concepts
// that occur in c. It is so for the concepts of which the table was made, and
// for all parts of them and of the marks.
func (t *Table) Covers(c api.Concept) bool {
	return visit(c, func(node api.Concept) bool {
		mark, needed := markAt(node)
		if !needed {
			return true
		}
		_, known := t.placeOf(mark)
		return known
	})
}

// True returns the types in which c, which the table covers, is true.
func (t *Table) True(c api.Concept) Set {
	switch c.Op {
	case api.CTop:
		return t.types
	case api.CBot:
		return Set{}
	case api.CNot:
		return t.types.Minus(t.True(c.Args[0]))
	case api.CAnd:
		return t.True(c.Args[0]).And(t.True(c.Args[1]))
	case api.COr:
		return t.True(c.Args[0]).Or(t.True(c.Args[1]))
	}
	mark, _ := markAt(c)
	place, _ := t.placeOf(mark)
	if c.Op == api.CAll {
		return t.types.Minus(t.owners[place])
	}
	return t.owners[place]
}
