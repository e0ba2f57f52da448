package search_test

import (
	"fmt"
	"strings"

	"isagoge/api"
)

// lines collects the lines of a knowledge base.
type lines []string

func (l *lines) add(format string, values ...any) {
	*l = append(*l, fmt.Sprintf(format, values...))
}

func (l *lines) base(more string) api.Base {
	return parsed(strings.Join(*l, ";") + ";" + more)
}

// joined returns strings that are joined by a word to one concept.
func joined(word string, list ...string) string {
	c := list[0]
	for _, d := range list[1:] {
		c = "(" + c + " " + word + " " + d + ")"
	}
	return c
}

// counter are the lines by which each r-successor of an element has the next
// number, written with the concept names B0, B1, .. for its bits, and the last
// number is followed by 0. The concept names C1, C2, .. say that all lower bits
// are set. Two names, P and Q, are the same along r.
func counter(bits int) *lines {
	l := &lines{"concept P", "concept Q", "role r", "ind a", "ind b", "ind c"}
	for k := range bits {
		l.add("concept B%d", k)
		l.add("concept C%d", k+1)
	}
	for _, p := range []string{"P", "Q"} {
		l.add("%s < all r %s", p, p)
		l.add("not %s < all r not %s", p, p)
	}
	carry := "top"
	for k := range bits {
		l.add("(%s and B%d) < C%d", carry, k, k+1)
		l.add("C%d < (%s and B%d)", k+1, carry, k)
		l.add("(%s and B%d) < all r not B%d", carry, k, k)
		l.add("(%s and not B%d) < all r B%d", carry, k, k)
		l.add("(not %s and B%d) < all r B%d", carry, k, k)
		l.add("(not %s and not B%d) < all r not B%d", carry, k, k)
		carry = fmt.Sprintf("C%d", k+1)
	}
	return l
}

// number returns the concept of the elements of a counter that have a number.
func number(bits, n int) string {
	var list []string
	for k := range bits {
		bit := fmt.Sprintf("B%d", k)
		if n>>k&1 == 0 {
			bit = "not " + bit
		}
		list = append(list, bit)
	}
	return joined("and", list...)
}

// coloring are the lines by which ends of edges have different ones of some
// colors, with an edge between each two of the individuals v0, v1, ..
func coloring(colors, inds int) *lines {
	l := &lines{"role e"}
	var list []string
	for k := range colors {
		list = append(list, fmt.Sprintf("C%d", k))
		l.add("concept C%d", k)
		l.add("C%d < all e not C%d", k, k)
	}
	l.add("top < %s", joined("or", list...))
	for k := range inds {
		l.add("ind v%d", k)
		for before := range k {
			l.add("(v%d, v%d) : e", before, k)
		}
	}
	return l
}

// pigeons are the lines by which each of some pigeons is in one of some holes,
// and no two of them are in the same one.
func pigeons(count, holes int) *lines {
	l := &lines{"ind a"}
	for k := range count {
		var list []string
		for hole := range holes {
			list = append(list, fmt.Sprintf("P%d%d", k, hole))
			l.add("concept P%d%d", k, hole)
			for before := range k {
				l.add("P%d%d < not P%d%d", before, hole, k, hole)
			}
		}
		l.add("a : %s", joined("or", list...))
	}
	return l
}

// chain are the lines by which a has r-successors of r-successors up to the one
// with a number, which is 198, or more by the concept that follows it.
func chain(end string) *lines {
	l := &lines{"role r", "ind a", "a : X0"}
	for k := range 11 {
		l.add("concept X%d", k)
		l.add("X%d < %sX%d", k, strings.Repeat("some r ", 18), k+1)
	}
	l.add("concept X11")
	l.add("X11 < %s", end)
	return l
}

// wide are the lines by which all elements that are at most three successors
// away from a have four successors, all of them different, and those that are
// four successors away have one more, with K.
func wide() *lines {
	l := &lines{"concept K", "role r", "role s", "ind a", "a : L0", "concept L0", "L4 < some s K"}
	for k := range 4 {
		l.add("concept L%d", k+1)
		l.add("concept P%d", k)
		l.add("concept Q%d", k)
		for _, p := range []string{"P", "not P"} {
			for _, q := range []string{"Q", "not Q"} {
				l.add("L%d < some r (L%d and (%s and %s))", k, k+1, kept(fmt.Sprint(p, k), 3-k), kept(fmt.Sprint(q, k), 3-k))
			}
		}
	}
	return l
}

// kept returns a concept of elements that are elements of c, as their successors
// are, and theirs, for some levels.
func kept(c string, levels int) string {
	if levels == 0 {
		return c
	}
	return "(" + c + " and all r " + kept(c, levels-1) + ")"
}

// choices are the lines of some disjunctions of a of which both sides lead to the
// same, and that together lead to a contradiction two successors away from a.
func choices(count int) *lines {
	l := &lines{"role r", "ind a", "a : some r some r top"}
	var list []string
	for k := range count {
		d := fmt.Sprintf("D%d", k)
		list = append(list, d)
		l.add("concept %s", d)
		l.add("a : (all r all r %s or all r all r (%s and %s))", d, d, d)
	}
	l.add("%s < bot", joined("and", list...))
	return l
}
