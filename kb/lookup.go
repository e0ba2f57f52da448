package kb

import (
	"slices"

	"isagoge/api"
	"isagoge/concept"
)

func inclusionOf(sub, super string) lookup {
	return func(n api.Names) statement {
		return inclusion{Sub: conceptOf(n, sub), Super: conceptOf(n, super)}
	}
}

// roleInclusionOf takes all tokens of the line.
func roleInclusionOf(tokens []string) lookup {
	middle := slices.Index(tokens, "<")
	sub, super := tokens[1:middle], tokens[middle+1:]
	return func(n api.Names) statement {
		return roleInclusion{Sub: roleOf(n, sub), Super: roleOf(n, super)}
	}
}

func factOf(ind, c string) lookup {
	return func(n api.Names) statement {
		return fact{Ind: slices.Index(n.Inds, ind), Concept: conceptOf(n, c)}
	}
}

// linkOf takes all tokens of the line.
func linkOf(tokens []string) lookup {
	from, to, name := tokens[1], tokens[3], tokens[6]
	return func(n api.Names) statement {
		return link{
			Role: slices.Index(n.Roles, name),
			From: slices.Index(n.Inds, from),
			To:   slices.Index(n.Inds, to),
		}
	}
}

// conceptOf returns the concept of a string, or one that is not valid if there
// is none over these names.
func conceptOf(n api.Names, s string) api.Concept {
	c, e := concept.Parse(n, s)
	if e != api.OK {
		return api.Concept{Op: -1}
	}
	return c
}

// roleOf returns the role of a name that may be followed by the token of an
// inverse. It is negative if the name is unknown.
func roleOf(n api.Names, tokens []string) int {
	r := 2 * slices.Index(n.Roles, tokens[0])
	if len(tokens) > 1 {
		r++
	}
	return r
}
