package concept_test

import (
	"strings"
	"testing"

	"isagoge/api"
	"isagoge/concept"
)

// P1.4: the string of each operator, and the concept of each string.
func TestStrings(t *testing.T) {
	a, b, c1 := name(0), name(1), name(2)
	for _, c := range []struct {
		c    api.Concept
		want string
	}{
		{a, "A"},
		{c1, "C1"},
		{top(), "top"},
		{bot(), "bot"},
		{not(b), "not B"},
		{not(not(top())), "not not top"},
		{and(a, b), "(A and B)"},
		{or(b, a), "(B or A)"},
		{some(0, a), "some r A"},
		{some(1, a), "some r- A"},
		{some(2, a), "some s_2 A"},
		{some(3, bot()), "some s_2- bot"},
		{all(0, b), "all r B"},
		{all(1, not(b)), "all r- not B"},
		{all(3, some(0, a)), "all s_2- some r A"},
		{not(and(a, or(b, c1))), "not (A and (B or C1))"},
		{and(and(a, b), c1), "((A and B) and C1)"},
		{and(some(0, a), all(1, b)), "(some r A and all r- B)"},
		{some(0, and(a, not(or(top(), b)))), "some r (A and not (top or B))"},
	} {
		s, e := concept.String(names(), c.c)
		if s != c.want || e != api.OK {
			t.Errorf("String: %q, error %d, not %q", s, e, c.want)
		}
		got, e := concept.Parse(names(), c.want)
		expect(t, "Parse of "+c.want, got, e, c.c, api.OK)
	}
}

// P1.4: errors of String.
func TestStringErrors(t *testing.T) {
	for _, c := range refused() {
		s, e := concept.String(c.n, c.c)
		if s != "" || e != c.want {
			t.Errorf("String of %+v: %q, error %d, not %d", c.c, s, e, c.want)
		}
	}
}

// P1.4: blanks between tokens are ignored.
func TestParseBlanks(t *testing.T) {
	for s, want := range map[string]api.Concept{
		"some r-(A or not B)":   some(1, or(name(0), not(name(1)))),
		"some r -A":             some(1, name(0)),
		"some r - A":            some(1, name(0)),
		"some   r   -   A":      some(1, name(0)),
		"some r-A":              some(1, name(0)),
		"all s_2-not A":         all(3, not(name(0))),
		"( A and B )":           and(name(0), name(1)),
		"(A  and  B)":           and(name(0), name(1)),
		"((A or B)and(B or A))": and(or(name(0), name(1)), or(name(1), name(0))),
		"not(A and B)":          not(and(name(0), name(1))),
		"  A":                   name(0),
		"A  ":                   name(0),
		" ( not  not top or  some r ( bot and A)) ": or(not(not(top())), some(0, and(bot(), name(0)))),
	} {
		got, e := concept.Parse(names(), s)
		expect(t, "Parse of "+s, got, e, want, api.OK)
	}
}

// P1.4: strings whose tokens are not those of a concept.
func TestParseErrText(t *testing.T) {
	for _, s := range []string{
		"", " ", "     ", "(", ")", "-", "()", "A B", "A A", "top top", "top A", "A top", "not", "not not", "not A B",
		"A and B", "A or B", "(A)", "(A and B", "A and B)", "(A and B))", "((A and B)", "((A and B))", "(A B)", "(A and)",
		"(and B)", "(A or or B)", "(A and or B)", "(A not B)", "(A and B and B)", "(A and B or B)", "(A some B)", "(A and B) A",
		"(A and B A", "(A and B and", "(A and B -", "(A and B (", "(A and B not", "A and B)", "A or B)", "not A and B)", "(A - B)", "(A- and B)", "(A and- B)", "(A and B-)", "(A and -B)", "(- A or B)", "(A or B)-", "(some r A- and B)", "(A AND B)", "(A And B)", "(A Or B)", "(A r B)", "(A all B)", "(and and and)",
		"some", "all", "some r", "all r", "some r-", "some A", "some -", "some - A", "some -r A", "some r--A", "some r - - A",
		"some r A B", "some (r) A", "some r- - A", "all r (A)", "some r and", "some r )", "some not A", "not -A", "A-", "- A", "r-", "top-", "not- A", "some- r A",
		"and", "or", "concept", "role", "ind", "not and", "not role", "(concept and A)", "(A or ind)", "some role A", "all concept A", "some ind A",
		"some top A", "some bot A", "all not A", "some and A", "all or A", "some some A", "some all A", "all some r A", "all all A",
		"some r concept", "all r ind", "concept A", "role r", "ind a",
		"!", "A!", "!A", "A !", "A.B", "A,B", "A:B", "A<B", "(A & B)", "A\t", "\tA", "\nA", "A\n", "A\r", "not\tA", "(A\nand B)", "\x00", "A\x00", "A\xff",
		"é", "Aé", "Ä", "\u00a0A", "A\u3000", "1", "1A", "A 1", "_", "_A", "A _A", "1 A", "(A and 1)", "some 1 A", "some r 0", "[A]", "{A}", "A;", "A'", "\"A\"", "A+", "A*", "A/B", "A@", "A`", "A[", "A{", "A^", "~A",
		// Errors in the text come before unknown names and before limits.
		"C and D", "(C and D", "C D", "some x", "some A B C", "some x !", "Unknown )", "A (", strings.Repeat("not ", 100),
		strings.Repeat("not ", 100) + "A B", strings.Repeat("(", 29999), strings.Repeat("(A and ", 400) + "A",
		strings.Repeat("!", 30000), strings.Repeat("(", 15000) + strings.Repeat(")", 15000), strings.Repeat("some r ", 4000), strings.Repeat(" ", 30000),
	} {
		got, e := concept.Parse(names(), s)
		expect(t, "Parse of "+s[:min(len(s), 40)], got, e, api.Concept{}, api.ErrText)
	}
}

// P1.4: each byte before, after, and in the place of a name.
func TestParseEachByte(t *testing.T) {
	const letters = "abcdefghijklmnopqrstuvwxyzABCDEFGHIJKLMNOPQRSTUVWXYZ"
	n := api.Names{Concepts: []string{"A"}, Roles: []string{"r"}}
	// isOK has the bytes with which the string is that of a concept; with the
	// ones that isName has, it uses an unknown name.
	check := func(before, after, isOK, isName string) {
		for b := range 256 {
			one := string([]byte{byte(b)})
			want := api.ErrText
			switch {
			case strings.Contains(isOK, one):
				want = api.OK
			case strings.Contains(isName, one):
				want = api.ErrConcept
			}
			if _, e := concept.Parse(n, before+one+after); e != want {
				t.Errorf("%q, byte %d, %q: %d, not %d", before, b, after, e, want)
			}
		}
	}
	check("not ", "A", " ", letters)
	check("not A", "", " ", letters+"0123456789_")
	check("not ", "", "A", letters)
	check("some ", " A", "r", letters)
	check("some r", " A", " -", letters+"0123456789_")
}

// P1.4: strings of concepts that are not valid.
func TestParseErrConcept(t *testing.T) {
	for _, s := range []string{
		"C", "a", "b", "r", "s_2", "A1", "AA", "c1", "Top", "TOP", "Not", "andA", "tops", "nottop", "notA", "Abcdefghijklm", strings.Repeat("A", 30000),
		"not C", "(A and C)", "(C or A)", "some r C", "all r- C", "some x A", "some x- A", "all y- C", "some A B", "some A- B", "all a A", "all b- A", "some r r", "some rr A", "all R A", "some r1 A",
		"some r_ A", "(some r A and some q A)", "(A and (B or (A and D)))", "not Role", "some Ind A", "some Some A",
		strings.Repeat("not ", 20) + "A", strings.Repeat("some r ", 20) + "A", strings.Repeat("not ", 7000) + "A",
		strings.Repeat("(A and ", 20) + "A" + strings.Repeat(")", 20),
		strings.Repeat("(", 3000) + "A" + strings.Repeat(" or B)", 3000),
	} {
		got, e := concept.Parse(names(), s)
		expect(t, "Parse of "+s[:min(len(s), 40)], got, e, api.Concept{}, api.ErrConcept)
	}
}

// P1.4: the limits of the result, and of the string.
func TestParseLimits(t *testing.T) {
	var nodes func(leaves int) string
	nodes = func(leaves int) string {
		if leaves == 1 {
			return "A"
		}
		return "(" + nodes(leaves/2) + " and " + nodes(leaves-leaves/2) + ")"
	}
	for _, c := range []struct {
		label, s string
		want     api.Concept
		e        api.Errno
	}{
		{"399 nodes", nodes(200), bushy(200, name(0)), api.OK},
		{"400 nodes", "not " + nodes(200), not(bushy(200, name(0))), api.OK},
		{"401 nodes", nodes(201), api.Concept{}, api.ErrConcept},
		{"depth 20", strings.Repeat("some r ", 19) + "A", chain(20, someR, name(0)), api.OK},
		{"depth 21", strings.Repeat("some r ", 20) + "A", api.Concept{}, api.ErrConcept},
		{"30000 bytes", "not" + strings.Repeat(" ", 29996) + "A", not(name(0)), api.OK},
		{"30001 bytes", "not" + strings.Repeat(" ", 29997) + "A", api.Concept{}, api.ErrLarge},
		{"30001 bytes of a name", strings.Repeat("A", 30001), api.Concept{}, api.ErrLarge},
		{"30001 wrong bytes", strings.Repeat("!", 30001), api.Concept{}, api.ErrLarge},
		{"30001 brackets", strings.Repeat("(", 30001), api.Concept{}, api.ErrLarge},
		{"30001 blanks", strings.Repeat(" ", 30001), api.Concept{}, api.ErrLarge},
		{"30000 bytes, not characters", strings.Repeat("\u00e9", 15001), api.Concept{}, api.ErrLarge},
		{"a million bytes", strings.Repeat("not ", 250000), api.Concept{}, api.ErrLarge},
	} {
		got, e := concept.Parse(names(), c.s)
		expect(t, c.label, got, e, c.want, c.e)
	}
}

// P1.4 (and R2): names that are not valid come before all other errors.
func TestParseErrBase(t *testing.T) {
	for _, s := range []string{"A", "top", "", "!", "C", strings.Repeat("(", 30001)} {
		got, e := concept.Parse(wrong(), s)
		expect(t, "wrong names", got, e, api.Concept{}, api.ErrBase)
		got, e = concept.Parse(api.Names{Inds: []string{"top"}}, s)
		expect(t, "a reserved name", got, e, api.Concept{}, api.ErrBase)
	}
	got, e := concept.Parse(api.Names{}, "(top or bot)")
	expect(t, "no names", got, e, or(top(), bot()), api.OK)
	got, e = concept.Parse(api.Names{}, "A")
	expect(t, "no names", got, e, api.Concept{}, api.ErrConcept)
}

// P1.5 and W8: Parse of String returns the concept.
func TestParseOfString(t *testing.T) {
	long := api.Names{Concepts: []string{"Abcdefghijk1", "Abcdefghijk2", "Abcdefghijk3"}, Roles: []string{"abcdefghij_r", "abcdefghij_s"}}
	concepts := append(someConcepts(2000, 6),
		not(bushy(200, name(2))), bushy(100, some(1, name(0))), chain(20, not, name(1)), chain(20, someR, top()),
		or(bushy(100, all(3, name(2))), bot()))
	for _, n := range []api.Names{names(), long} {
		for _, c := range concepts {
			s, e := concept.String(n, c)
			if e != api.OK {
				t.Fatalf("String of %s: error %d", shown(c), e)
			}
			got, e := concept.Parse(n, s)
			expect(t, "Parse of "+s, got, e, c, api.OK)
			again, e := concept.String(n, got)
			if again != s || e != api.OK {
				t.Errorf("%q is printed as %q, error %d", s, again, e)
			}
		}
	}
}

// P1.5: names of the greatest numbers.
func TestStringOfAllNames(t *testing.T) {
	n := api.Names{Concepts: listed("C", 16), Roles: listed("r", 6), Inds: listed("i", 10)}
	for k, s := range n.Concepts {
		got, e := concept.Parse(n, s)
		expect(t, s, got, e, name(k), api.OK)
	}
	for k, s := range n.Roles {
		text := "(some " + s + " top or all " + s + "- bot)"
		got, e := concept.Parse(n, text)
		expect(t, s, got, e, or(some(2*k, top()), all(2*k+1, bot())), api.OK)
		if back, e := concept.String(n, got); back != text || e != api.OK {
			t.Errorf("String of %s: %q, error %d", text, back, e)
		}
	}
	for _, s := range n.Inds {
		got, e := concept.Parse(n, s)
		expect(t, s, got, e, api.Concept{}, api.ErrConcept)
	}
}
