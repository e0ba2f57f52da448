package concept_test

import (
	"math"
	"reflect"
	"strings"
	"testing"

	"isagoge/api"
	"isagoge/concept"
)

// A call is a call of the package, as a function of its arguments that returns
// the results.
type call struct {
	name string
	run  func(n api.Names, c api.Concept, s string) []any
}

func results(l ...any) []any {
	return l
}

// calls has all functions of the package that stop at the limits of concepts.
func calls() []call {
	return []call{
		{"Names", func(n api.Names, c api.Concept, s string) []any { return results(concept.Names(n)) }},
		{"Check", func(n api.Names, c api.Concept, s string) []any { return results(concept.Check(n, c)) }},
		{"Normal", func(n api.Names, c api.Concept, s string) []any { return results(concept.Normal(n, c)) }},
		{"Not", func(n api.Names, c api.Concept, s string) []any { return results(concept.Not(n, c)) }},
		{"Subs", func(n api.Names, c api.Concept, s string) []any { return results(concept.Subs(n, c)) }},
		{"Uses", func(n api.Names, c api.Concept, s string) []any { return results(concept.Uses(n, c)) }},
		{"String", func(n api.Names, c api.Concept, s string) []any { return results(concept.String(n, c)) }},
		{"Parse", func(n api.Names, c api.Concept, s string) []any { return results(concept.Parse(n, s)) }},
	}
}

// hostile are concepts that no call may stumble over.
func hostile() []api.Concept {
	shared := name(0)
	for range 60 {
		shared = and(shared, shared)
	}
	return []api.Concept{
		{}, {Op: -1}, {Op: 8}, {Op: math.MaxInt}, {Op: math.MinInt}, name(math.MaxInt), name(math.MinInt), name(-1),
		{Op: api.CNot}, {Op: api.CAnd}, {Op: api.COr, Args: make([]api.Concept, 1)}, {Op: api.CSome}, {Op: api.CAll, N: 1},
		{Op: api.CNot, Args: make([]api.Concept, 2)}, {Op: api.CTop, Args: make([]api.Concept, 1)},
		{Op: api.CAnd, Args: make([]api.Concept, 1000000)}, {Op: api.CName, Args: make([]api.Concept, 1000000)},
		some(math.MaxInt, top()), all(math.MinInt, top()), some(-1, top()),
		chain(1<<16, not, name(0)), chain(1<<16, someR, top()), bushy(100000, name(0)), shared,
	}
}

// P1: all calls return, for all arguments.
func TestCallsReturn(t *testing.T) {
	lists := []api.Names{
		{}, names(), wrong(), {Concepts: make([]string, 1000000)}, {Roles: []string{""}}, {Inds: []string{strings.Repeat("a", 1<<20)}},
		{Concepts: listed("C", 16), Roles: listed("r", 6), Inds: listed("i", 10)},
	}
	texts := []string{"", "\x00", "\xff\xfe", "some r-", strings.Repeat("(", 30000), strings.Repeat("-", 30000), strings.Repeat("not ", 7500), strings.Repeat("x", 1<<22)}
	concepts := hostile()
	for _, f := range calls() {
		for _, n := range lists {
			for _, c := range concepts {
				f.run(n, c, "A")
			}
			for _, s := range texts {
				f.run(n, api.Concept{}, s)
			}
		}
	}
	deep := []api.Concept{chain(1<<16, not, top()), chain(1<<16, someR, top()), {Args: make([]api.Concept, 1000000)}}
	for i, c := range deep {
		if nodes, _ := concept.Size(c); nodes < 1<<16 {
			t.Errorf("Size: %d nodes", nodes)
		}
		for k, d := range deep {
			if concept.Same(c, d) != (i == k) {
				t.Errorf("Same of %d and %d", i, k)
			}
		}
	}
}

// R3 and R7: results next to an error are zero values, and a call that is
// repeated returns the same.
func TestCallsRepeat(t *testing.T) {
	texts := []string{"A", "some r- (A or B)", "C", "A B", "", strings.Repeat("A", 30001)}
	for _, f := range calls() {
		for _, n := range []api.Names{names(), wrong()} {
			for _, c := range append(someConcepts(30, 5), name(7), chain(20, someR, name(0)), not(bushy(200, name(0)))) {
				for _, s := range texts {
					first := f.run(n, c, s)
					if second := f.run(n, c, s); !reflect.DeepEqual(first, second) {
						t.Errorf("%s: %v, then %v", f.name, first, second)
					}
					checkZero(t, f.name, first)
				}
			}
		}
	}
}

func checkZero(t *testing.T, label string, l []any) {
	t.Helper()
	last := len(l) - 1
	if l[last] == api.OK {
		return
	}
	for _, v := range l[:last] {
		if r := reflect.ValueOf(v); !r.IsZero() && (r.Kind() != reflect.Slice || r.Len() > 0) {
			t.Errorf("%s: %v with error %v", label, v, l[last])
		}
	}
}

// spoil overwrites all memory that c reaches, also beyond the lengths of its
// slices.
func spoil(c *api.Concept) {
	args := c.Args[:cap(c.Args)]
	for i := range args {
		spoil(&args[i])
	}
	*c = api.Concept{Op: -9, N: -9}
}

// R4: arguments are not modified, also not beyond the length of a slice.
func TestCallsKeepArguments(t *testing.T) {
	roomy := func(l ...api.Concept) []api.Concept {
		return append(l, name(77), name(78))[:len(l)]
	}
	a := api.Concept{Op: api.CNot, Args: roomy(name(0))}
	for _, c := range []api.Concept{
		{Op: api.CAnd, Args: roomy(a, name(1))},
		{Op: api.CNot, Args: roomy(api.Concept{Op: api.CSome, N: 3, Args: roomy(a)})},
		{Op: api.CNot, Args: roomy(api.Concept{Op: api.COr, Args: roomy(name(1), a)})},
		{Op: api.CTop, Args: roomy()},
	} {
		n := names()
		n.Concepts = append(n.Concepts, "beyond")[:3]
		before := cloned(c)
		for _, f := range calls() {
			f.run(n, c, "some s_2 A")
			concept.Size(c)
			concept.Same(c, before)
		}
		if !equal(c, before) || !reflect.DeepEqual(n, names()) || n.Concepts[:4][3] != "beyond" {
			t.Errorf("%s is %s afterwards, with %v", shown(before), shown(c), n)
		}
		for _, node := range []api.Concept{c, a} {
			if args := node.Args[:len(node.Args)+2]; !equalLists(args[len(node.Args):], []api.Concept{name(77), name(78)}) {
				t.Errorf("beyond the Args of %s there is %+v", shown(before), args)
			}
		}
	}
}

// R4: a result shares no memory with the argument.
func TestResultsAreNew(t *testing.T) {
	for _, f := range []struct {
		name string
		run  func(api.Names, api.Concept) (api.Concept, api.Errno)
	}{{"Normal", concept.Normal}, {"Not", concept.Not}} {
		for _, c := range append(someConcepts(200, 5), name(0), not(name(0)), and(name(0), not(name(1)))) {
			before := cloned(c)
			got, e := f.run(names(), c)
			if e != api.OK {
				t.Fatal(e)
			}
			spoil(&got)
			if !equal(c, before) {
				t.Errorf("the result of %s shares memory with %s", f.name, shown(before))
			}
		}
	}
}

// R4: the concepts of a list share no memory with the argument or each other.
func TestSubsAreNew(t *testing.T) {
	for _, c := range append(someConcepts(200, 5), and(not(name(0)), some(1, not(name(0)))), and(and(top(), bot()), and(top(), bot()))) {
		before := cloned(c)
		want, e := concept.Subs(names(), c)
		if e != api.OK {
			t.Fatal(e)
		}
		for i := range want {
			got, _ := concept.Subs(names(), c)
			spoil(&got[i])
			if !equal(c, before) {
				t.Fatalf("part %d of %s shares memory with it", i, shown(before))
			}
			got[i] = want[i]
			if !equalLists(got, want) {
				t.Errorf("part %d of %s shares memory with another one", i, shown(before))
			}
		}
	}
}

// R4: the lists of one result share no memory.
func TestUsesAreNew(t *testing.T) {
	c := and(some(2, name(1)), all(0, and(name(0), name(1))))
	concepts, roles, _ := concept.Uses(names(), c)
	for i := range concepts[:cap(concepts)] {
		concepts[:cap(concepts)][i] = -1
	}
	if !reflect.DeepEqual(roles, []int{0, 1}) {
		t.Errorf("both lists share memory: %v", roles)
	}
}
