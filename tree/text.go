package tree

import (
	"strings"

	"isagoge/api"
)

// words has the word of each operator that is written as one.
var words = [...]string{
	api.CTop:  "top",
	api.CBot:  "bot",
	api.CNot:  "not",
	api.CAnd:  "and",
	api.COr:   "or",
	api.CSome: "some",
	api.CAll:  "all",
}

// String returns the string of c, whose names and roles are among those of n.
func String(n api.Names, c api.Concept) string {
	var b strings.Builder
	write(&b, n, c)
	return b.String()
}

func write(b *strings.Builder, n api.Names, c api.Concept) {
	switch c.Op {
	case api.CName:
		b.WriteString(n.Concepts[c.N])
	case api.CTop, api.CBot:
		b.WriteString(words[c.Op])
	case api.CNot:
		b.WriteString("not ")
		write(b, n, c.Args[0])
	case api.CAnd, api.COr:
		b.WriteString("(")
		write(b, n, c.Args[0])
		b.WriteString(" " + words[c.Op] + " ")
		write(b, n, c.Args[1])
		b.WriteString(")")
	case api.CSome, api.CAll:
		b.WriteString(words[c.Op] + " " + role(n, c.N) + " ")
		write(b, n, c.Args[0])
	}
}

// role returns a role as it is written: its name, with - for an inverse.
func role(n api.Names, r int) string {
	if r%2 == 1 {
		return n.Roles[r/2] + "-"
	}
	return n.Roles[r/2]
}
