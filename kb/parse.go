package kb

import (
	"strings"

	"isagoge/api"
	"isagoge/concept"
	"isagoge/scan"
)

// Parse returns the knowledge base whose string is s, apart from the order of
// the lines, empty lines and blanks.
func Parse(s string) (api.Base, api.Errno) {
	if len(s) > api.MaxText {
		return api.Base{}, api.ErrLarge
	}
	var r reader
	for _, line := range strings.Split(s, "\n") {
		if !r.read(line) {
			return api.Base{}, api.ErrText
		}
	}
	b := r.base()
	if e := Check(b); e != api.OK {
		return api.Base{}, e
	}
	return b, api.OK
}

// A reader collects what the lines of a string say.
type reader struct {
	names   api.Names
	lookups []lookup
}

// A lookup returns the axiom of a line over the given names. It runs when all
// lines have been read, because names may be declared after they are used.
// Where a name is unknown, the axiom is not valid.
type lookup func(n api.Names) statement

// base returns the knowledge base that has been read, valid or not.
func (r *reader) base() api.Base {
	b := api.Base{Names: r.names}
	for _, find := range r.lookups {
		add(&b, find(r.names))
	}
	return b
}

// read reads a line, and reports whether it is empty or the line of a name or
// of an axiom.
func (r *reader) read(line string) bool {
	tokens, ok := scan.Tokens(line, "()-<:,")
	if !ok {
		return false
	}
	switch form(tokens) {
	case "":
	case "concept N":
		r.names.Concepts = append(r.names.Concepts, declared(tokens))
	case "role N":
		r.names.Roles = append(r.names.Roles, declared(tokens))
	case "ind N":
		r.names.Inds = append(r.names.Inds, declared(tokens))
	case "role N < N", "role N - < N", "role N < N -", "role N - < N -":
		r.later(roleInclusionOf(tokens))
	case "( N , N ) : N":
		r.later(linkOf(tokens))
	default:
		return r.readConcepts(line, tokens)
	}
	return true
}

// readConcepts reads a line that contains concepts, and reports whether it is
// the line of an inclusion or of a fact. Package concept gets parts of the line
// as they are: tokens with blanks in between might be longer than MaxText.
func (r *reader) readConcepts(line string, tokens []string) bool {
	if sub, super, found := strings.Cut(line, "<"); found {
		r.later(inclusionOf(sub, super))
		return isConcept(sub) && isConcept(super)
	}
	_, c, found := strings.Cut(line, ":")
	if !found || !scan.IsName(tokens[0]) || tokens[1] != ":" {
		return false
	}
	r.later(factOf(tokens[0], c))
	return isConcept(c)
}

func (r *reader) later(find lookup) {
	r.lookups = append(r.lookups, find)
}

// form returns the tokens with a blank between any two of them, and with N in
// the place of each name.
func form(tokens []string) string {
	var list []string
	for _, token := range tokens {
		if scan.IsName(token) {
			token = "N"
		}
		list = append(list, token)
	}
	return strings.Join(list, " ")
}

// declared returns the name that a line declares, as a copy, because a part of
// the string would keep the whole string in memory.
func declared(tokens []string) string {
	return strings.Clone(tokens[1])
}

// isConcept reports whether s is the string of a concept over some names: then
// it is one over no names, or has an unknown name.
func isConcept(s string) bool {
	_, e := concept.Parse(api.Names{}, s)
	return e != api.ErrText
}
