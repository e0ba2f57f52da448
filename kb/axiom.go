package kb

import (
	"strings"

	"isagoge/api"
	"isagoge/concept"
	"isagoge/tree"
)

// A statement is an axiom of one of the four kinds below.
type statement interface {
	// line returns the line of the axiom, without its line feed. The axiom is
	// one of a valid knowledge base with the names n.
	line(n api.Names) string
}

type (
	inclusion     api.Incl
	roleInclusion api.RoleIncl
	fact          api.Fact
	link          api.Link
)

func (x inclusion) line(n api.Names) string {
	return text(n, x.Sub) + " < " + text(n, x.Super)
}

func (x roleInclusion) line(n api.Names) string {
	return "role " + role(n, x.Sub) + " < " + role(n, x.Super)
}

func (x fact) line(n api.Names) string {
	return n.Inds[x.Ind] + " : " + text(n, x.Concept)
}

func (x link) line(n api.Names) string {
	return "(" + n.Inds[x.From] + ", " + n.Inds[x.To] + ") : " + n.Roles[x.Role]
}

// text returns the string of a concept that is known to be valid.
func text(n api.Names, c api.Concept) string {
	s, _ := concept.String(n, c)
	return s
}

func role(n api.Names, r int) string {
	return n.Roles[r/2] + strings.Repeat("-", r%2)
}

// statements returns the axioms of b, each at the position of its number.
func statements(b api.Base) []statement {
	var list []statement
	for _, x := range b.Incls {
		list = append(list, inclusion(x))
	}
	for _, x := range b.Roles {
		list = append(list, roleInclusion(x))
	}
	for _, x := range b.Facts {
		list = append(list, fact(x))
	}
	for _, x := range b.Links {
		list = append(list, link(x))
	}
	return list
}

// add adds an axiom to b that is equal to x and shares no memory with it, as
// the last one of its kind.
func add(b *api.Base, x statement) {
	switch x := x.(type) {
	case inclusion:
		b.Incls = append(b.Incls, api.Incl{Sub: tree.Copy(x.Sub), Super: tree.Copy(x.Super)})
	case roleInclusion:
		b.Roles = append(b.Roles, api.RoleIncl(x))
	case fact:
		b.Facts = append(b.Facts, api.Fact{Ind: x.Ind, Concept: tree.Copy(x.Concept)})
	case link:
		b.Links = append(b.Links, api.Link(x))
	}
}
