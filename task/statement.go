package task

import (
	"slices"
	"strconv"

	"isagoge/api"
	"isagoge/concept"
	"isagoge/hier"
	"isagoge/interp"
	"isagoge/kb"
	"isagoge/search"
	"isagoge/tree"
)

// A statement is an axiom of one of the four kinds below.
type statement interface {
	// over reports whether its numbers and concepts are valid over n.
	over(n api.Names) bool
	// verdict returns a right verdict for b, over whose names the statement is.
	verdict(b api.Base, steps int) Verdict
}

// A testable statement is entailed if and only if its test is inconsistent.
type testable interface {
	// test returns a knowledge base that may be too large to be valid. It shares
	// no memory with b, nor with the statement.
	test(b api.Base) api.Base
}

type (
	inclusion     api.Incl
	roleInclusion api.RoleIncl
	fact          api.Fact
	link          api.Link
)

// statementOver returns x as a statement: it is an error if b is not valid, or
// if x is not an axiom over b.
func statementOver(b api.Base, x api.Axiom) (statement, api.Errno) {
	if e := kb.Check(b); e != api.OK {
		return nil, e
	}
	var s statement
	rest := x
	switch x.Kind {
	case api.AIncl:
		s, rest.Incl = inclusion(x.Incl), api.Incl{}
	case api.ARole:
		s, rest.Role = roleInclusion(x.Role), api.RoleIncl{}
	case api.AFact:
		s, rest.Fact = fact(x.Fact), api.Fact{}
	case api.ALink:
		s, rest.Link = link(x.Link), api.Link{}
	default:
		return nil, api.ErrArg
	}
	if !s.over(b.Names) || !hasNoFields(rest) {
		return nil, api.ErrArg
	}
	return s, api.OK
}

// hasNoFields reports whether all fields of x, but for its kind, are zero
// values.
func hasNoFields(x api.Axiom) bool {
	for _, c := range []api.Concept{x.Incl.Sub, x.Incl.Super, x.Fact.Concept} {
		if !concept.Same(c, api.Concept{}) {
			return false
		}
	}
	return x.Fact.Ind == 0 && x.Role == api.RoleIncl{} && x.Link == api.Link{}
}

// testOf returns the test of s: ErrArg if it has none, ErrLarge if that is not
// valid.
func testOf(b api.Base, s statement) (api.Base, api.Errno) {
	if s, ok := s.(testable); ok {
		test := s.test(b)
		if kb.Check(test) != api.OK {
			return api.Base{}, api.ErrLarge
		}
		return test, api.OK
	}
	return api.Base{}, api.ErrArg
}

func (x inclusion) over(n api.Names) bool {
	return concept.Check(n, x.Sub) == api.OK && concept.Check(n, x.Super) == api.OK
}

func (x roleInclusion) over(n api.Names) bool {
	return kb.Check(api.Base{Names: n, Roles: []api.RoleIncl{api.RoleIncl(x)}}) == api.OK
}

func (x fact) over(n api.Names) bool {
	return kb.Check(api.Base{Names: n, Facts: []api.Fact{api.Fact(x)}}) == api.OK
}

func (x link) over(n api.Names) bool {
	return kb.Check(api.Base{Names: n, Links: []api.Link{api.Link(x)}}) == api.OK
}

// An inclusion does not hold where something is an element of Sub and not of
// Super: that is a further individual of the test.
func (x inclusion) test(b api.Base) api.Base {
	both := []api.Concept{x.Sub, not(x.Super)}
	test := with(b, len(b.Names.Inds), api.Concept{Op: api.CAnd, Args: both})
	test.Names.Inds = append(test.Names.Inds, newName(b.Names))
	return test
}

func (x fact) test(b api.Base) api.Base {
	return with(b, x.Ind, not(x.Concept))
}

func (x inclusion) verdict(b api.Base, steps int) Verdict {
	return tested(b, x, steps)
}

func (x fact) verdict(b api.Base, steps int) Verdict {
	return tested(b, x, steps)
}

// A role inclusion that role inclusions do not lead to fails wherever Sub has
// pairs. The inclusion that is tested says that it has none; its test may be too
// large where b is not.
func (x roleInclusion) verdict(b api.Base, steps int) Verdict {
	if below, _ := hier.Below(b, x.Sub, x.Super); below {
		return Verdict{Known: true, Holds: true}
	}
	a, _ := search.Search(b, steps)
	if a.Known && !a.Consistent {
		return Verdict{Known: true, Holds: true}
	}
	if pairs, _ := interp.Pairs(b.Names, a.Model, x.Sub); len(pairs) > 0 {
		return Verdict{Known: true}
	}
	first := api.Concept{Op: api.CSome, N: x.Sub, Args: []api.Concept{{Op: api.CTop}}}
	v := tested(b, inclusion{Sub: first, Super: api.Concept{Op: api.CBot}}, steps)
	return Verdict{Known: v.Known, Holds: v.Holds}
}

func (x link) verdict(b api.Base, steps int) Verdict {
	if slices.ContainsFunc(b.Links, func(y api.Link) bool { return x.follows(b, y) }) {
		return Verdict{Known: true, Holds: true}
	}
	a, _ := search.Search(b, steps)
	return Verdict{Known: a.Known, Holds: a.Known && !a.Consistent}
}

// follows reports whether x is true wherever y and the role inclusions of b
// are.
func (x link) follows(b api.Base, y api.Link) bool {
	along, _ := hier.Below(b, 2*y.Role, 2*x.Role)
	against, _ := hier.Below(b, 2*y.Role+1, 2*x.Role)
	return along && x.From == y.From && x.To == y.To || against && x.From == y.To && x.To == y.From
}

// tested returns the verdict for x that a search in its test comes to. Where
// that is too large, nothing is known.
func tested(b api.Base, x testable, steps int) Verdict {
	a, _ := search.Search(x.test(b), steps)
	return Verdict{Known: a.Known, Holds: a.Known && !a.Consistent, Counter: a.Model, Proof: a.Proof}
}

// included says that one concept name is included in another one.
func included(sub, super int) inclusion {
	return inclusion{Sub: api.Concept{N: sub}, Super: api.Concept{N: super}}
}

func not(c api.Concept) api.Concept {
	return api.Concept{Op: api.CNot, Args: []api.Concept{c}}
}

// with returns a copy of b with one more fact, as the last one.
func with(b api.Base, ind int, c api.Concept) api.Base {
	more, _ := kb.Join(b, api.Base{Names: b.Names})
	more.Facts = append(more.Facts, api.Fact{Ind: ind, Concept: tree.Copy(c)})
	return more
}

// newName returns the first of x0, x1, .. that is not a name of n.
func newName(n api.Names) string {
	taken := slices.Concat(n.Concepts, n.Roles, n.Inds)
	name := "x0"
	for k := 1; slices.Contains(taken, name); k++ {
		name = "x" + strconv.Itoa(k)
	}
	return name
}
