package concept

import (
	"slices"

	"isagoge/api"
	"isagoge/scan"
)

// Parse returns the concept whose string is s, apart from blanks.
func Parse(n api.Names, s string) (api.Concept, api.Errno) {
	if e := Names(n); e != api.OK {
		return api.Concept{}, e
	}
	if len(s) > api.MaxText {
		return api.Concept{}, api.ErrLarge
	}
	c, e := read(n, s)
	if e == api.OK {
		e = Check(n, c)
	}
	if e != api.OK {
		return api.Concept{}, e
	}
	return c, api.OK
}

// read returns the concept that s is the string of, whatever names it has: an
// unknown one gets a number that makes the concept invalid, because errors in
// the rest of the string come first. Wherever the parser finds such an error,
// it gives up by a panic, which ends here.
func read(n api.Names, s string) (c api.Concept, e api.Errno) {
	defer func() {
		if recover() != nil {
			c, e = api.Concept{}, api.ErrText
		}
	}()
	tokens, ok := scan.Tokens(s, "()-")
	if !ok {
		panic(api.ErrText)
	}
	p := &parser{names: n, tokens: tokens}
	c = p.concept()
	if len(p.tokens) > 0 {
		panic(api.ErrText)
	}
	return c, api.OK
}

// A parser reads a concept from the tokens that are left.
type parser struct {
	names  api.Names
	tokens []string
}

// next removes a token and returns it.
func (p *parser) next() string {
	if len(p.tokens) == 0 {
		panic(api.ErrText)
	}
	token := p.tokens[0]
	p.tokens = p.tokens[1:]
	return token
}

func (p *parser) concept() api.Concept {
	switch token := p.next(); token {
	case "top":
		return api.Concept{Op: api.CTop}
	case "bot":
		return api.Concept{Op: api.CBot}
	case "not":
		return api.Concept{Op: api.CNot, Args: []api.Concept{p.concept()}}
	case "some":
		return p.quantified(api.CSome)
	case "all":
		return p.quantified(api.CAll)
	case "(":
		return p.pair()
	default:
		return api.Concept{Op: api.CName, N: find(p.names.Concepts, token)}
	}
}

// quantified reads what follows the word of a quantifier.
func (p *parser) quantified(op int) api.Concept {
	word := p.next()
	r := 2 * find(p.names.Roles, word)
	if len(p.tokens) > 0 && p.tokens[0] == "-" {
		p.next()
		r++
	}
	return api.Concept{Op: op, N: r, Args: []api.Concept{p.concept()}}
}

// pair reads what follows an opening bracket.
func (p *parser) pair() api.Concept {
	left := p.concept()
	op := p.connective()
	right := p.concept()
	if p.next() != ")" {
		panic(api.ErrText)
	}
	return api.Concept{Op: op, Args: []api.Concept{left, right}}
}

func (p *parser) connective() int {
	switch p.next() {
	case "and":
		return api.CAnd
	case "or":
		return api.COr
	}
	panic(api.ErrText)
}

// find returns the position of a name, -1 if it is not in the list, and gives
// up at a token that cannot be a name.
func find(list []string, token string) int {
	if !scan.IsName(token) {
		panic(api.ErrText)
	}
	return slices.Index(list, token)
}
