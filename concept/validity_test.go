package concept_test

import (
	"math"
	"slices"
	"strconv"
	"strings"
	"testing"

	"isagoge/api"
	"isagoge/concept"
)

// listed returns different valid names.
func listed(prefix string, count int) []string {
	var l []string
	for i := range count {
		l = append(l, prefix+strconv.Itoa(i))
	}
	return l
}

// P1.1: single names.
func TestNamesOfOneName(t *testing.T) {
	reserved := strings.Fields("top bot not and or some all concept role ind")
	good := []string{"A", "z", "Z", "a", "A1", "a_", "x_9_Y", "Abcdefghijkl", "a23456789012", "Top", "NOT", "tops", "bot1", "an", "roles", "inds", "In", "true"}
	bad := append([]string{"", "1", "1A", "_", "_A", "-A", "A-", "A B", " A", "A ", "A.", "A:", "A<", "A,", "A;", "A(", "A\n", "A\x00", "é", "Aé", "Ā", "A\xff", "@", "[", "`", "{", "A@", "A[", "A`", "A{", "A/", "Abcdefghijklm", "a234567890123", strings.Repeat("A", 100000)}, reserved...)
	for want, l := range map[api.Errno][]string{api.OK: good, api.ErrBase: bad} {
		for _, s := range l {
			for _, n := range []api.Names{{Concepts: []string{s}}, {Roles: []string{s}}, {Inds: []string{s}}, {Concepts: []string{"q", s}, Roles: []string{"p"}}} {
				if e := concept.Names(n); e != want {
					t.Errorf("%.20q: %d, not %d", n, e, want)
				}
			}
		}
	}
}

// P1.1: every byte, as the first one and as a later one of a name.
func TestNamesOfEachByte(t *testing.T) {
	const letters = "abcdefghijklmnopqrstuvwxyzABCDEFGHIJKLMNOPQRSTUVWXYZ"
	for b := range 256 {
		one := string([]byte{byte(b)})
		first := strings.Contains(letters, one)
		later := strings.Contains(letters+"0123456789_", one)
		if got := concept.Names(api.Names{Roles: []string{one + "x"}}) == api.OK; got != first {
			t.Errorf("byte %d first: %v", b, got)
		}
		if got := concept.Names(api.Names{Roles: []string{"x" + one}}) == api.OK; got != later {
			t.Errorf("byte %d later: %v", b, got)
		}
	}
}

// P1.1: the number of names.
func TestNamesLimits(t *testing.T) {
	for _, c := range []struct {
		concepts, roles, inds int
		want                  api.Errno
	}{
		{0, 0, 0, api.OK},
		{16, 6, 10, api.OK},
		{17, 0, 0, api.ErrBase},
		{0, 7, 0, api.ErrBase},
		{0, 0, 11, api.ErrBase},
		{17, 6, 10, api.ErrBase},
		{16, 7, 10, api.ErrBase},
		{16, 6, 11, api.ErrBase},
		{100000, 0, 0, api.ErrBase},
	} {
		n := api.Names{Concepts: listed("C", c.concepts), Roles: listed("r", c.roles), Inds: listed("i", c.inds)}
		if e := concept.Names(n); e != c.want {
			t.Errorf("%d concepts, %d roles, %d individuals: %d, not %d", c.concepts, c.roles, c.inds, e, c.want)
		}
	}
}

// P1.1: all names are distinct, also those of different kinds.
func TestNamesDistinct(t *testing.T) {
	for _, c := range []struct {
		n    api.Names
		want api.Errno
	}{
		{api.Names{Concepts: []string{"A", "A"}}, api.ErrBase},
		{api.Names{Concepts: []string{"A", "B", "C", "A"}}, api.ErrBase},
		{api.Names{Roles: []string{"r", "s", "s"}}, api.ErrBase},
		{api.Names{Inds: []string{"a", "b", "a"}}, api.ErrBase},
		{api.Names{Concepts: []string{"A", "x"}, Roles: []string{"r", "x"}}, api.ErrBase},
		{api.Names{Concepts: []string{"x", "B"}, Inds: []string{"a", "x"}}, api.ErrBase},
		{api.Names{Roles: []string{"r", "x"}, Inds: []string{"x"}}, api.ErrBase},
		{api.Names{Concepts: []string{"x"}, Roles: []string{"X"}, Inds: []string{"xx"}}, api.OK},
		{names(), api.OK},
	} {
		if e := concept.Names(c.n); e != c.want {
			t.Errorf("%v: %d, not %d", c.n, e, c.want)
		}
	}
}

// P1.1: the fields of a node.
func TestCheckFields(t *testing.T) {
	a := name(0)
	arity := []int{api.CName: 0, api.CTop: 0, api.CBot: 0, api.CNot: 1, api.CAnd: 2, api.COr: 2, api.CSome: 1, api.CAll: 1}
	choices := []int{api.CName: 3, api.CTop: 1, api.CBot: 1, api.CNot: 1, api.CAnd: 1, api.COr: 1, api.CSome: 4, api.CAll: 4}
	for op := -2; op <= 9; op++ {
		for args := range 4 {
			for k := -2; k <= 6; k++ {
				c := api.Concept{Op: op, N: k, Args: slices.Repeat([]api.Concept{a}, args)}
				want := api.ErrConcept
				if 0 <= op && op < 8 && args == arity[op] && 0 <= k && k < choices[op] {
					want = api.OK
				}
				if e := concept.Check(names(), c); e != want {
					t.Errorf("%+v: %d, not %d", c, e, want)
				}
			}
		}
	}
}

// P1.1: numbers of names depend on the names, and wrong parts may be anywhere.
func TestCheckPlaces(t *testing.T) {
	bad := name(3)
	for _, c := range []struct {
		n    api.Names
		c    api.Concept
		want api.Errno
	}{
		{api.Names{}, top(), api.OK},
		{api.Names{}, not(bot()), api.OK},
		{api.Names{}, name(0), api.ErrConcept},
		{api.Names{Inds: []string{"a"}}, name(0), api.ErrConcept},
		{api.Names{Roles: []string{"r"}}, name(0), api.ErrConcept},
		{api.Names{Concepts: []string{"A"}}, some(0, top()), api.ErrConcept},
		{api.Names{Concepts: []string{"A"}}, all(1, top()), api.ErrConcept},
		{api.Names{Roles: []string{"r"}}, some(1, top()), api.OK},
		{api.Names{Roles: []string{"r"}}, all(2, top()), api.ErrConcept},
		{names(), api.Concept{Op: api.CTop, Args: []api.Concept{}}, api.OK},
		{names(), not(bad), api.ErrConcept},
		{names(), and(bad, name(0)), api.ErrConcept},
		{names(), and(name(0), bad), api.ErrConcept},
		{names(), or(bad, name(0)), api.ErrConcept},
		{names(), or(name(0), bad), api.ErrConcept},
		{names(), some(0, bad), api.ErrConcept},
		{names(), all(0, not(bad)), api.ErrConcept},
		{names(), name(math.MaxInt), api.ErrConcept},
		{names(), some(math.MinInt, top()), api.ErrConcept},
		{names(), api.Concept{Op: math.MaxInt}, api.ErrConcept},
		{names(), api.Concept{Op: math.MinInt}, api.ErrConcept},
		{wrong(), top(), api.ErrBase},
		{wrong(), bad, api.ErrBase},
	} {
		if e := concept.Check(c.n, c.c); e != c.want {
			t.Errorf("%v %+v: %d, not %d", c.n, c.c, e, c.want)
		}
	}
}

// P1.1: at most MaxNodes nodes and a depth of at most MaxDepth.
func TestCheckLimits(t *testing.T) {
	for _, c := range []struct {
		label string
		c     api.Concept
		want  api.Errno
	}{
		{"399 nodes", bushy(200, name(0)), api.OK},
		{"400 nodes", not(bushy(200, name(0))), api.OK},
		{"401 nodes", bushy(201, name(0)), api.ErrConcept},
		{"402 nodes", not(bushy(201, name(0))), api.ErrConcept},
		{"depth 20", chain(20, someR, name(0)), api.OK},
		{"depth 21", chain(21, someR, name(0)), api.ErrConcept},
		{"depth 20 of not", chain(20, not, top()), api.OK},
		{"depth 21 of not", chain(21, not, top()), api.ErrConcept},
		{"depth 20 on the right", and(top(), chain(19, not, top())), api.OK},
		{"depth 21 on the right", and(top(), chain(20, not, top())), api.ErrConcept},
		{"depth 21 on the left", or(chain(20, not, top()), top()), api.ErrConcept},
	} {
		if e := concept.Check(names(), c.c); e != c.want {
			t.Errorf("%s: %d, not %d", c.label, e, c.want)
		}
	}
}

// P1.1: Size takes any tree.
func TestSize(t *testing.T) {
	for _, c := range []struct {
		c            api.Concept
		nodes, depth int
	}{
		{api.Concept{}, 1, 1},
		{top(), 1, 1},
		{not(name(0)), 2, 2},
		{and(name(0), name(0)), 3, 2},
		{and(not(name(0)), name(1)), 4, 3},
		{or(name(0), all(0, not(name(1)))), 5, 4},
		{bushy(256, name(0)), 511, 9},
		{api.Concept{Op: -5, N: -7, Args: []api.Concept{{Op: 99}, {Op: api.CTop, Args: []api.Concept{{}}}, {}}}, 5, 3},
		{api.Concept{Op: api.CName, Args: make([]api.Concept, 1000)}, 1001, 2},
		{chain(5000, not, top()), 5000, 5000},
	} {
		if nodes, depth := concept.Size(c.c); nodes != c.nodes || depth != c.depth {
			t.Errorf("%d nodes, depth %d, not %d and %d", nodes, depth, c.nodes, c.depth)
		}
	}
}

// P1, P1.1: the size and the equality of trees that are far beyond the limits.
func TestLargeTrees(t *testing.T) {
	deep := []api.Concept{chain(1<<16, not, top()), chain(1<<16, someR, top()), {Args: make([]api.Concept, 1000000)}}
	for i, c := range deep {
		if nodes, _ := concept.Size(c); nodes < 1<<16 {
			t.Errorf("Size: %d nodes", nodes)
		}
		for k, d := range deep {
			if concept.Same(c, d) != (i == k) {
				t.Errorf("Same of %d and %d", i, k)
			}
		}
	}
}

// P1.1: Same compares any trees, field by field.
func TestSame(t *testing.T) {
	different := []api.Concept{
		name(0), name(1), top(), bot(), {Op: api.CTop, N: 1}, {Op: -1}, {Op: 8},
		not(name(0)), not(name(1)), not(not(name(0))),
		and(name(0), name(1)), and(name(1), name(0)), and(name(0), name(0)), or(name(0), name(1)),
		and(and(name(0), name(1)), name(2)), and(name(0), and(name(1), name(2))),
		some(0, name(0)), some(1, name(0)), some(0, name(1)), all(0, name(0)), some(0, some(0, name(0))),
		{Op: api.CAnd}, {Op: api.CAnd, Args: []api.Concept{name(0)}},
		{Op: api.CAnd, Args: []api.Concept{name(0), name(1), name(2)}},
		{Op: api.CName, Args: []api.Concept{name(0)}},
	}
	for i, c := range different {
		for k, d := range different {
			if got := concept.Same(c, cloned(d)); got != (i == k) {
				t.Errorf("Same of %+v and %+v: %v", c, d, got)
			}
		}
	}
	if !concept.Same(api.Concept{}, api.Concept{Args: []api.Concept{}}) {
		t.Error("nil and an empty slice are not the same")
	}
}
