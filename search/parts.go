package search

import (
	"isagoge/api"
	"isagoge/tree"
)

// A part is a concept in negation normal form, whose arguments are the numbers
// of other parts.
type part struct {
	op, n, left, right int
}

// parts has all concepts that labels may contain, and the negation normal forms
// of their negations, with a number for each.
type parts struct {
	list    []part
	numbers map[part]int
	// negations has, for each part, the number of the normal form of its negation.
	negations []int
}

// number returns the numbers of the negation normal forms of c and of its
// negation.
func (p *parts) number(c api.Concept) (plain, negated int) {
	if c.Op == api.CNot {
		negated, plain = p.number(c.Args[0])
		return plain, negated
	}
	if c.Op == api.CName {
		plain = p.enter(part{op: api.CName, n: c.N})
		negated = p.enter(part{op: api.CNot, left: plain})
	} else {
		x, y := part{op: c.Op, n: c.N}, part{op: tree.Dual(c.Op), n: c.N}
		if len(c.Args) > 0 {
			x.left, y.left = p.number(c.Args[0])
		}
		if len(c.Args) > 1 {
			x.right, y.right = p.number(c.Args[1])
		}
		plain = p.enter(x)
		negated = p.enter(y)
	}
	p.negations[plain], p.negations[negated] = negated, plain
	return plain, negated
}

// enter returns the number of x, which gets one if it has none.
func (p *parts) enter(x part) int {
	number, known := p.numbers[x]
	if !known {
		number = len(p.list)
		p.numbers[x] = number
		p.list = append(p.list, x)
		p.negations = append(p.negations, number)
	}
	return number
}

// concept returns the concept with a number, as new memory.
func (p *parts) concept(number int) api.Concept {
	x := p.list[number]
	c := api.Concept{Op: x.op, N: x.n}
	switch x.op {
	case api.CNot, api.CSome, api.CAll:
		c.Args = []api.Concept{p.concept(x.left)}
	case api.CAnd, api.COr:
		c.Args = []api.Concept{p.concept(x.left), p.concept(x.right)}
	}
	return c
}
