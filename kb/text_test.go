package kb_test

import (
	"math/rand"
	"slices"
	"strings"
	"testing"

	"isagoge/api"
	"isagoge/kb"
)

// exampleText is the first example of the chapter.
const exampleText = `concept Human
concept Robot
role parent
role mother
ind eve
ind ann
Human < some parent Human
Human < not Robot
role mother < parent
eve : Human
(eve, ann) : mother
`

// example is the knowledge base of exampleText.
func example() api.Base {
	n := api.Names{Concepts: []string{"Human", "Robot"}, Roles: []string{"parent", "mother"}, Inds: []string{"eve", "ann"}}
	human := over(n, "Human")
	return api.Base{
		Names: n,
		Incls: []api.Incl{{Sub: human, Super: over(n, "some parent Human")}, {Sub: human, Super: over(n, "not Robot")}},
		Roles: []api.RoleIncl{roleIncl(2, 0)},
		Facts: []api.Fact{{Ind: 0, Concept: human}},
		Links: []api.Link{link(1, 0, 1)},
	}
}

// P2.4: the string of a knowledge base.
func TestString(t *testing.T) {
	for _, c := range []struct {
		b    api.Base
		want string
	}{
		{api.Base{}, ""},
		{full(), fullText},
		{example(), exampleText},
		{api.Base{Names: api.Names{Inds: []string{"x"}}}, "ind x\n"},
		{api.Base{Names: api.Names{Concepts: []string{"x"}, Roles: []string{"y"}}}, "concept x\nrole y\n"},
		{api.Base{Incls: []api.Incl{incl("top", "bot")}}, "top < bot\n"},
	} {
		if s, e := kb.String(c.b); s != c.want || e != api.OK {
			t.Errorf("String: %q, error %d, not %q", s, e, c.want)
		}
		got, e := kb.Parse(c.want)
		expect(t, "Parse of "+c.want, got, e, c.b, api.OK)
	}
	for _, b := range wrong() {
		if s, e := kb.String(b); s != "" || e != api.ErrBase {
			t.Errorf("String of %s: %q, error %d", shown(b), s, e)
		}
	}
}

// declared are the lines of names, for strings that use them.
const declared = "concept A\nconcept B\nconcept C1\nrole r\nrole s_2\nind a\nind b_1\n"

// P2.4: blanks between tokens are ignored.
func TestParseBlanks(t *testing.T) {
	for s, want := range map[string]api.Base{
		"A<B":                                    {Incls: []api.Incl{incl("A", "B")}},
		" A  <  B ":                              {Incls: []api.Incl{incl("A", "B")}},
		"(A and B)<some r-(A or not B)":          {Incls: []api.Incl{incl("(A and B)", "some r- (A or not B)")}},
		"some r - A<not(A or B)":                 {Incls: []api.Incl{incl("some r- A", "not (A or B)")}},
		"role r<s_2":                             {Roles: []api.RoleIncl{roleIncl(0, 2)}},
		"role r-<s_2-":                           {Roles: []api.RoleIncl{roleIncl(1, 3)}},
		"  role  r  -  <  r  ":                   {Roles: []api.RoleIncl{roleIncl(1, 0)}},
		"role s_2<r -":                           {Roles: []api.RoleIncl{roleIncl(2, 1)}},
		"a:A":                                    {Facts: []api.Fact{fact(0, "A")}},
		"  b_1  :  not  top  ":                   {Facts: []api.Fact{fact(1, "not top")}},
		"a :(A and B)":                           {Facts: []api.Fact{fact(0, "(A and B)")}},
		"(a,b_1):r":                              {Links: []api.Link{link(0, 0, 1)}},
		" ( b_1 , a ) : s_2 ":                    {Links: []api.Link{link(1, 1, 0)}},
		"(a, a): r":                              {Links: []api.Link{link(0, 0, 0)}},
		"a : " + strings.Repeat(" ", 9999) + "A": {Facts: []api.Fact{fact(0, "A")}},
	} {
		want.Names = names()
		for _, text := range []string{declared + s + "\n", declared + s, s + "\n" + declared} {
			got, e := kb.Parse(text)
			expect(t, "Parse of "+s, got, e, want, api.OK)
		}
	}
	got, e := kb.Parse("  concept   A \n concept B\nconcept  C1\nrole r  \n  role s_2\n ind a\nind   b_1  ")
	expect(t, "names", got, e, api.Base{Names: names()}, api.OK)
}

// P2.4: empty lines, and the end of the last line.
func TestParseEmptyLines(t *testing.T) {
	for _, s := range []string{"", "\n", "\n\n\n", " ", "   \n  \n "} {
		got, e := kb.Parse(s)
		expect(t, "empty lines", got, e, api.Base{}, api.OK)
	}
	for _, s := range []string{
		strings.TrimSuffix(fullText, "\n"), fullText + "\n\n", "\n" + fullText, strings.ReplaceAll(fullText, "\n", "\n\n"),
		strings.ReplaceAll(fullText, "\n", " \n   \n "), fullText + strings.Repeat("\n", 29000),
	} {
		got, e := kb.Parse(s)
		expect(t, "the full text with empty lines", got, e, full(), api.OK)
	}
	got, e := kb.Parse("concept A")
	expect(t, "one line", got, e, api.Base{Names: api.Names{Concepts: []string{"A"}}}, api.OK)
}

// kindOf returns the position of the kind of a line in the string of a
// knowledge base.
func kindOf(line string) int {
	role := strings.HasPrefix(line, "role ")
	switch {
	case strings.HasPrefix(line, "concept "):
		return 0
	case strings.HasPrefix(line, "ind "):
		return 2
	case strings.Contains(line, "<") && role:
		return 4
	case strings.Contains(line, "<"):
		return 3
	case role:
		return 1
	case strings.Contains(line, ","):
		return 6
	}
	return 5
}

// P2.4: lines may be in any order, and the lines of each kind keep theirs.
func TestParseOrder(t *testing.T) {
	r := rand.New(rand.NewSource(2))
	for _, b := range append(someBases(200), full(), example()) {
		s, _ := kb.String(b)
		lines := strings.SplitAfter(strings.TrimSuffix(s, "\n"), "\n")
		lines[len(lines)-1] += "\n"
		r.Shuffle(len(lines), func(i, k int) { lines[i], lines[k] = lines[k], lines[i] })
		got, e := kb.Parse(strings.Join(lines, ""))
		slices.SortStableFunc(lines, func(l, m string) int { return kindOf(l) - kindOf(m) })
		want := strings.TrimPrefix(strings.Join(lines, ""), "\n")
		if again, _ := kb.String(got); e != api.OK || again != want {
			t.Errorf("the lines of %s in another order: %q, error %d, not %q", shown(b), again, e, want)
		}
	}
	reversed := strings.Split(exampleText, "\n")
	slices.Reverse(reversed)
	got, e := kb.Parse(strings.Join(reversed, "\n"))
	want := `concept Robot
concept Human
role mother
role parent
ind ann
ind eve
Human < not Robot
Human < some parent Human
role mother < parent
eve : Human
(eve, ann) : mother
`
	if s, _ := kb.String(got); s != want || e != api.OK {
		t.Errorf("the example in reverse: %q, error %d", s, e)
	}
}

// wrongLines are no lines of knowledge bases, whatever names there are.
func wrongLines() []string {
	return []string{
		// Names.
		"concept", "role", "ind", "concept A B", "concept A concept B", "ind a b", "role r s", "concept A,B", "concept top", "concept concept", "role role", "ind ind",
		"role some", "ind and", "concept not A", "concept (A)", "concept A-", "role r-", "ind a-", "concept 1", "role 1r", "ind _", "concept -", "concept <", "ind :", "role ,", "concept A;", "conceptA", "roler", "Concept A", "CONCEPT A", "concept:A",
		// Inclusions.
		"A", "r", "a", "top", "A B", "A <", "< A", "<", "A < < B", "A < B < C1", "A << B", "A > B", "A = B", "A <= B", "A < B,", "A, B < C1", "A < B C1", "A B < C1", "(A < B)", "A < (B", "A) < B", "not < A", "A < not",
		"A < and", "and < A", "A and B < B", "A < A or B", "concept < A", "A < concept", "A < role", "ind A < B", "concept A < B", "A < role r", "some A < B", "some r < A", "A < all r", "some r-- A < B", "- < A", "A- < B", "A < B-", "A < B!", "A: < B", "A < B:", "A < 1",
		// Role inclusions.
		"role r <", "role < r", "role <", "role r < <", "role r < r < r", "role r << r", "role r r < r", "role r < r r", "role r- - < r", "role r -- < r", "role r < r--", "role -r < r", "role r < -r", "role - < r", "role r < -", "role r < top", "role top < r",
		"role role < r", "role r < role r", "role r < role", "role not r < r", "role r < not r", "role (r) < r", "role r < (r)", "role r < some r A", "role r-- < r", "role r : r", "role r, r", "role r - r", "role r- r", "role r-", "role r- <", "Role r < r",
		// Facts.
		"a :", ": A", ":", "a : A B", "a b_1 : A", "a : : A", "a :: A", "a : A : A", "a, b_1 : A", "a : A, B", "a : A < B", "A < a : A", "a < A : B", "a : (A", "a : A)", "(a) : A", "a : not", "not a : A", "top : A", "bot : top", "some : A", "role : A", "concept : A", "ind : A", "ind a : A",
		"a- : A", "a : A-", "a : -", "a : concept", "a : role A", "a : ind", "a : some A", "a = A", "a A", "a : r-", "(a : A)", "1 : A", "a : 1", "(a and b_1) : A", "not : A", "a -: A", "a : A;", "(a or a) : A",
		// Links.
		"(a, b_1) :", "(a, b_1)", "(a, b_1) r", "(a, b_1 : r", "a, b_1) : r", "a, b_1 : r", "(a b_1) : r", "(a,) : r", "(, b_1) : r", "(,) : r", "() : r", "(a, b_1, a) : r", "(a,, b_1) : r", "((a, b_1)) : r", "(a, b_1) : r-", "(a, b_1) : r r", "(a, b_1) : (r)", "(a, b_1) : not r", "(a, b_1) : top", "(a, b_1) : role",
		"(a, b_1) : role r", "(a, b_1) : some r A", "(top, a) : r", "(a, top) : r", "(a-, b_1) : r", "(a, b_1-) : r", "(a, b_1) : - r", "(a : b_1) : r", "(a < b_1) : r", "(a, b_1) < r", "(a, b_1) :: r", "(a, b_1) : : r", "r(a, b_1)", "(a; b_1) : r", "(a, (b_1)) : r", "(1, a) : r", "a : (a, b_1)", "(a, b_1) : r < s_2", "role (a, b_1) : r", "((a, b_1) : r)", "(a, b_1) : r,",
		// Bytes and tokens alone.
		"!", "A!", "\t", "A\t< B", "A < B\t", "A < B\r", "\r", "\x00", "A < B\x00", "\xff", "A < \xff", "é", "A < é", "é : A", "# A", "-- A", "(", ")", "-", ",", ";", "()", "not", "and", "some", "some r", "\v", "\u00a0", "A.", "{}", "1", "_", "\"A\" < B",
	}
}

// P2.4: ErrText comes before ErrBase, wherever the wrong line is.
func TestParseErrText(t *testing.T) {
	for _, s := range wrongLines() {
		for _, text := range []string{s, s + "\n", declared + s, s + "\n" + declared, fullText + s, "concept A\nconcept A\n" + s + "\nX < Y\n", "x : Y\n" + s, s + "\nrole r < q\n"} {
			got, e := kb.Parse(text)
			expect(t, "Parse of "+s, got, e, api.Base{}, api.ErrText)
		}
	}
	for _, s := range []string{
		strings.Repeat("(", 30000), strings.Repeat("not ", 7000) + "< A", "A < " + strings.Repeat("(", 29000), "A < " + strings.Repeat("-", 29000),
		"a : " + strings.Repeat("(", 29996), strings.Repeat("<", 30000), strings.Repeat(":", 30000), strings.Repeat("A ", 15000), strings.Repeat("A<A\n", 7499) + "A<",
		strings.Repeat("concept", 4000), strings.Repeat("role ", 6000),
	} {
		got, e := kb.Parse(s)
		expect(t, "Parse of "+s, got, e, api.Base{}, api.ErrText)
	}
}

// P2.4: strings of knowledge bases that are not valid.
func TestParseErrBase(t *testing.T) {
	for _, s := range []string{
		"A < C", "C < A", "D < D", "a < A", "A < r", "s_2 < A", "some t A < B", "A < all t- B", "A < some A B", "some a top < A", "A < (B and (A or Q))", "not X < A", "A < some r a",
		"role r < t", "role t < r", "role t- < r", "role r < t-", "role A < r", "role r < a", "role a- < A-", "role R < r",
		"c : A", "a : D", "A : A", "r : A", "a : a", "a : r", "a : some s A", "a : all B A", "a : not b_1", "b_1 : (A and Z)", "A1 : top", "a1 : top",
		"(a, b_1) : t", "(a, c) : r", "(c, a) : r", "(A, a) : r", "(a, r) : r", "(a, b_1) : A", "(a, b_1) : a", "(a, b_1) : s", "(c, c) : c", "(b_1, b) : r", "(b, b_1) : r",
		"concept A", "role r", "ind a", "concept r", "role a", "ind B", "concept x\nrole x", "role x\nind x", "ind x\nind x",
		"concept Abcdefghijklm", "role " + strings.Repeat("r", 13), "ind " + strings.Repeat("a", 20000),
		strings.Repeat("not ", 20) + "A < B", "A < " + strings.Repeat("some r ", 20) + "A", "a : " + strings.Repeat("all r ", 20) + "B", "a : " + strings.Repeat("not ", 7000) + "A",
		"A < " + strings.Repeat("(A and ", 2000) + "B" + strings.Repeat(")", 2000),
		strings.Repeat("A < A\n", 61), strings.Repeat("role r < r\n", 61), strings.Repeat("a : A\n", 61), strings.Repeat("(a, a) : r\n", 61), strings.Repeat("A<A\n", 7000),
		strings.Repeat("A<A\nrole r<r\na:A\n(a,a):r\n", 15) + "a:A",
		strings.Repeat("a : (not not not A or not not not A)\n", 45),
	} {
		for _, text := range []string{declared + s, s + "\n" + declared} {
			got, e := kb.Parse(text)
			expect(t, "Parse of "+s, got, e, api.Base{}, api.ErrBase)
		}
	}
	for _, l := range [][]string{listed("concept C", 17), listed("role r", 7), listed("ind i", 11), listed("concept C", 2000)} {
		got, e := kb.Parse(strings.Join(l, "\n"))
		expect(t, "Parse of "+shown(len(l))+" names", got, e, api.Base{}, api.ErrBase)
	}
	got, e := kb.Parse("a:A\nconcept A")
	expect(t, "the second example", got, e, api.Base{}, api.ErrBase)
}

// P2.4: each byte in the place of a token, and beside one.
func TestParseEachByte(t *testing.T) {
	const letters = "abcdefghijklmnopqrstuvwxyzABCDEFGHIJKLMNOPQRSTUVWXYZ"
	const later = letters + "0123456789_"
	for _, c := range []struct {
		before, after   string
		isOK, isUnknown string
	}{
		{"", "< B", "AB", letters},
		{"A ", " B", "<", ":"},
		{"A < B", "", " \n", later},
		{"role r ", "< s_2", " -", ""},
		{"role ", " < s_2", "r", letters},
		{"role r < s_2", "", " -\n", later},
		{"a ", " A", ":", "<"},
		{"", " : A", "a", letters},
		{"(a", " b_1) : r", ",", ""},
		{"", "a, b_1) : r", "(", ""},
		{"(a, b_1", " : r", ")", ""},
		{"(a, b_1) ", " r", ":", ""},
		{"(a, b_1) : r", "", " \n", later},
		{"(a, a", ") : r", " ", later},
		{"concept X", "", later + " \n", ""},
		{"concept", "X", " ", ""},
		{"ind ", "x", letters + " ", ""},
		{"", "", " \n", ""},
	} {
		for b := range 256 {
			one := string([]byte{byte(b)})
			want := api.ErrText
			switch {
			case strings.Contains(c.isOK, one):
				want = api.OK
			case strings.Contains(c.isUnknown, one):
				want = api.ErrBase
			}
			if _, e := kb.Parse(declared + c.before + one + c.after); e != want {
				t.Errorf("%q, byte %d, %q: %d, not %d", c.before, b, c.after, e, want)
			}
		}
	}
}

// P2.4: the limits of the string and of the result.
func TestParseLimits(t *testing.T) {
	pad := func(s string, length int) string { return s + strings.Repeat(" ", length-len(s)) }
	sixty := strings.Repeat("A<A\nrole r<r\na:A\n(a,a):r\n", 15)
	nodes := strings.Repeat("a : not not not not not not not not not A\n", 40)
	for _, c := range []struct {
		label, s string
		want     api.Errno
	}{
		{"30000 bytes", pad(fullText, 30000), api.OK},
		{"30001 bytes", pad(fullText, 30001), api.ErrLarge},
		{"30001 bytes that are no text", pad(fullText+"!", 30001), api.ErrLarge},
		{"30001 bytes that are no knowledge base", pad(fullText+"concept A", 30001), api.ErrLarge},
		{"30001 line feeds", strings.Repeat("\n", 30001), api.ErrLarge},
		{"30000 line feeds", strings.Repeat("\n", 30000), api.OK},
		{"30000 bytes, not characters", strings.Repeat("\u00e9", 15001), api.ErrLarge},
		{"a million bytes", strings.Repeat("A<A\n", 250000), api.ErrLarge},
		{"60 axioms", declared + sixty, api.OK},
		{"61 axioms", declared + sixty + "A<A", api.ErrBase},
		{"400 nodes", declared + nodes, api.OK},
		{"401 nodes", declared + nodes + "b_1 : A", api.ErrBase},
		{"depth 20", declared + "a : " + strings.Repeat("all r ", 19) + "B", api.OK},
		{"12 letters", "concept Abcdefghijkl", api.OK},
		{"13 letters", "concept Abcdefghijklm", api.ErrBase},
		{"the most names", strings.Join(slices.Concat(listed("concept C", 16), listed("role r", 6), listed("ind i", 10)), "\n"), api.OK},
	} {
		if got, e := kb.Parse(c.s); e != c.want || e != api.OK && shown(got) != shown(api.Base{}) {
			t.Errorf("%s: %.60s, error %d, not %d", c.label, shown(got), e, c.want)
		}
	}
}

// P2.5 and W8: Parse of String returns the knowledge base.
func TestParseOfString(t *testing.T) {
	for _, b := range append(someBases(1000), full(), example(), longest()) {
		s, e := kb.String(b)
		if e != api.OK || len(s) > api.MaxText {
			t.Fatalf("String of %s: %d bytes, error %d", shown(b), len(s), e)
		}
		got, e := kb.Parse(s)
		expect(t, "Parse of "+s, got, e, b, api.OK)
		if again, e := kb.String(got); again != s || e != api.OK {
			t.Errorf("%q is printed as %q, error %d", s, again, e)
		}
	}
}

// longest has as many names, axioms and nodes as possible.
func longest() api.Base {
	n := api.Names{Concepts: listed("ABCDEFGHIJ", 16), Roles: listed("abcdefghijk", 6), Inds: listed("abcdefghijK", 10)}
	b := api.Base{Names: n}
	for range 40 {
		b.Facts = append(b.Facts, api.Fact{Ind: 9, Concept: over(n, strings.Repeat("some abcdefghijk5- ", 9)+"ABCDEFGHIJ15")})
	}
	for range 20 {
		b.Links = append(b.Links, link(5, 8, 9))
	}
	return b
}
