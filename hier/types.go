package hier

import (
	"isagoge/api"
)

// isType reports whether a number is that of a set of marks.
func (t *table) isType(set int) bool {
	return 0 <= set && set < 1<<len(t.marks)
}

// covers reports whether marks stand for all names and quantified concepts
// that occur in c.
func (t *table) covers(c api.Concept) bool {
	return visit(c, func(node api.Concept) bool {
		mark, needed := markAt(node)
		if !needed {
			return true
		}
		_, known := t.placeOf(mark)
		return known
	})
}

// isTrue reports whether c, which the table covers, is true in a type.
func (t *table) isTrue(set int, c api.Concept) bool {
	switch c.Op {
	case api.CTop:
		return true
	case api.CBot:
		return false
	case api.CNot:
		return !t.isTrue(set, c.Args[0])
	case api.CAnd:
		return t.isTrue(set, c.Args[0]) && t.isTrue(set, c.Args[1])
	case api.COr:
		return t.isTrue(set, c.Args[0]) || t.isTrue(set, c.Args[1])
	default:
		mark, _ := markAt(c)
		place, _ := t.placeOf(mark)
		contained := set>>place&1 == 1
		return contained != (c.Op == api.CAll)
	}
}
