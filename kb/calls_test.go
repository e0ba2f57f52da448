package kb_test

import (
	"fmt"
	"math"
	"reflect"
	"slices"
	"strings"
	"testing"

	"isagoge/api"
	"isagoge/kb"
)

// arguments are those of all calls of the package.
type arguments struct {
	a, b api.Base
	list []int
	k    int
	s    string
}

// A call is a call of the package, as a function that returns the results.
type call struct {
	name string
	run  func(x arguments) []any
}

func results(l ...any) []any {
	return l
}

func calls() []call {
	return []call{
		{"Check", func(x arguments) []any { return results(kb.Check(x.a)) }},
		{"Axioms", func(x arguments) []any { return results(kb.Axioms(x.a)) }},
		{"Only", func(x arguments) []any { return results(kb.Only(x.a, x.list)) }},
		{"Line", func(x arguments) []any { return results(kb.Line(x.a, x.k)) }},
		{"Join", func(x arguments) []any { return results(kb.Join(x.a, x.b)) }},
		{"Uses", func(x arguments) []any { return results(kb.Uses(x.a)) }},
		{"String", func(x arguments) []any { return results(kb.String(x.a)) }},
		{"Parse", func(x arguments) []any { return results(kb.Parse(x.s)) }},
	}
}

// hostile are knowledge bases that no call may stumble over.
func hostile() []api.Base {
	shared := of("A")
	for range 60 {
		shared = api.Concept{Op: api.CAnd, Args: []api.Concept{shared, shared}}
	}
	l := []api.Base{
		{Names: api.Names{Concepts: make([]string, 1000000)}},
		{Names: api.Names{Inds: []string{strings.Repeat("a", 1<<20)}}},
		{Incls: make([]api.Incl, 1)},
		{Names: names(), Incls: make([]api.Incl, 1000000)},
		{Names: names(), Roles: make([]api.RoleIncl, 1000000)},
		{Names: names(), Facts: make([]api.Fact, 1000000)},
		{Names: names(), Links: make([]api.Link, 1000000)},
		{Roles: make([]api.RoleIncl, 60)}, {Facts: make([]api.Fact, 60)}, {Links: make([]api.Link, 60)},
		{Names: names(), Links: []api.Link{{Role: math.MinInt, From: math.MaxInt, To: math.MinInt}}},
		{Names: names(), Roles: []api.RoleIncl{{Sub: math.MaxInt, Super: math.MinInt}}},
		{Names: names(), Facts: slices.Repeat([]api.Fact{{Concept: bushy(200)}}, 60)},
	}
	for _, c := range []api.Concept{nested(1 << 16), bushy(100000), shared, {Args: make([]api.Concept, 1000000)}, {Op: math.MinInt, N: math.MaxInt}, {Op: api.CNot}} {
		l = append(l, api.Base{Names: names(), Incls: []api.Incl{{Sub: c}}}, api.Base{Names: names(), Incls: []api.Incl{{Super: c}}}, api.Base{Names: names(), Facts: []api.Fact{{Concept: c}}})
	}
	return l
}

// P1: all calls return, for all arguments.
func TestCallsReturn(t *testing.T) {
	lists := [][]int{nil, {0}, {-1}, {math.MaxInt}, make([]int, 1000000)}
	for _, f := range calls() {
		for _, b := range append(hostile(), full()) {
			for _, l := range lists {
				f.run(arguments{a: b, b: full(), list: l, k: math.MinInt})
				f.run(arguments{a: full(), b: b, list: l, k: math.MaxInt})
			}
		}
	}
	for _, s := range []string{
		"\x00", "\xff\xfe", strings.Repeat("(", 30000), strings.Repeat("-", 30000), strings.Repeat("<", 30000), strings.Repeat(":\n", 15000), strings.Repeat("x", 1<<22),
		strings.Repeat("(", 15000) + "<" + strings.Repeat(")", 14999), declared + strings.Repeat("A<A\n", 7000), strings.Repeat("concept A\n", 3000),
	} {
		if _, e := kb.Parse(s); e == api.OK {
			t.Errorf("Parse of %.20q: OK", s)
		}
	}
}

// somewhat are arguments that cause all errors, and none.
func somewhat() []arguments {
	var l []arguments
	for _, b := range append(wrong(), full(), example(), longest()) {
		l = append(l,
			arguments{a: b, b: full(), list: []int{0, 2, 5}, k: 1, s: fullText},
			arguments{a: full(), b: b, list: []int{2, 2}, k: 12, s: "concept A\n!"},
			arguments{a: longest(), b: b, list: []int{0, 60}, k: -1, s: strings.Repeat("A", 30001)},
			arguments{a: b, b: b, s: "A < B\nconcept A"})
	}
	return l
}

// R3 and R7: results next to an error are zero values, and a call that is
// repeated returns the same.
func TestCallsRepeat(t *testing.T) {
	for _, f := range calls() {
		for _, x := range somewhat() {
			first := f.run(x)
			if second := f.run(x); !reflect.DeepEqual(first, second) {
				t.Errorf("%s: %v, then %v", f.name, first, second)
			}
			checkZero(t, f.name, first)
		}
	}
}

// checkZero checks that all results are empty if there is an error.
func checkZero(t *testing.T, label string, l []any) {
	t.Helper()
	last := len(l) - 1
	if l[last] == api.OK {
		return
	}
	for _, v := range l[:last] {
		if got, want := shown(v), shown(reflect.Zero(reflect.TypeOf(v))); got != want {
			t.Errorf("%s: %s with error %v", label, got, l[last])
		}
	}
}

// roomy returns a list with elements beyond its length.
func roomy[T any](l []T, beyond T) []T {
	return append(slices.Clone(l), beyond, beyond)[:len(l)]
}

// roomyBase returns full with slices that have elements beyond their lengths.
func roomyBase() api.Base {
	b := full()
	wide := func(c *api.Concept) { c.Args = roomy(c.Args, api.Concept{Op: 77}) }
	for i := range b.Incls {
		wide(&b.Incls[i].Sub)
		wide(&b.Incls[i].Super)
	}
	for i := range b.Facts {
		wide(&b.Facts[i].Concept)
	}
	b.Incls = roomy(b.Incls, incl("top", "bot"))
	b.Roles = roomy(b.Roles, roleIncl(77, 78))
	b.Facts = roomy(b.Facts, fact(77, "bot"))
	b.Links = roomy(b.Links, link(77, 78, 79))
	b.Names.Concepts = roomy(b.Names.Concepts, "beyond")
	b.Names.Roles = roomy(b.Names.Roles, "beyond")
	b.Names.Inds = roomy(b.Names.Inds, "beyond")
	return b
}

// eachSlice calls do for all slices in a value, extended to their capacities.
func eachSlice(v reflect.Value, do func(l reflect.Value)) {
	switch v.Kind() {
	case reflect.Interface:
		eachSlice(v.Elem(), do)
	case reflect.Struct:
		for i := range v.NumField() {
			eachSlice(v.Field(i), do)
		}
	case reflect.Slice:
		v = v.Slice(0, v.Cap())
		do(v)
		for i := range v.Len() {
			eachSlice(v.Index(i), do)
		}
	}
}

// memory returns all memory that a value reaches, as a string.
func memory(v any) string {
	var b strings.Builder
	eachSlice(reflect.ValueOf(v), func(l reflect.Value) { fmt.Fprintf(&b, "%v;", l) })
	return b.String()
}

// R4: arguments are not modified, also not beyond the length of a slice.
func TestCallsKeepArguments(t *testing.T) {
	for _, f := range calls() {
		for _, list := range [][]int{{}, {0, 1, 4, 6, 9, 11}, {3, 2}} {
			a, b, l := roomyBase(), roomyBase(), roomy(list, 5)
			before := memory([]any{a, b, l})
			f.run(arguments{a: a, b: b, list: l, k: 6, s: fullText})
			if after := memory([]any{a, b, l}); after != before {
				t.Errorf("%s: %s, afterwards %s", f.name, before, after)
			}
		}
	}
}

// R4: no two slices of the results, and no slice of the results and one of the
// arguments, share memory.
func TestResultsAreNew(t *testing.T) {
	shared := roomyBase()
	shared.Incls[2] = shared.Incls[0]
	shared.Facts[2].Concept = shared.Incls[0].Super
	for _, f := range calls() {
		for _, a := range []api.Base{roomyBase(), shared, longest(), {Names: names()}} {
			nothing := api.Base{Names: a.Names}
			list := []int{0, 2, 8}[:min(3, len(a.Facts))]
			for _, b := range []api.Base{a, nothing} {
				got := f.run(arguments{a: a, b: b, list: list, s: fullText})
				if f.name != "Parse" && f.name != "Join" && f.name != "Line" && got[len(got)-1] != api.OK {
					t.Errorf("%s: error %v", f.name, got[len(got)-1])
				}
				checkApart(t, f.name, got, []any{a, b, list})
			}
		}
	}
}

// checkApart checks that each slice of got has its own memory.
func checkApart(t *testing.T, label string, got, arguments []any) {
	t.Helper()
	type space struct{ from, to uintptr }
	var taken []space
	each := func(values []any, do func(s space)) {
		for _, v := range values {
			eachSlice(reflect.ValueOf(v), func(l reflect.Value) {
				if l.Len() > 0 {
					do(space{l.Pointer(), l.Pointer() + uintptr(l.Len())*l.Type().Elem().Size()})
				}
			})
		}
	}
	each(arguments, func(s space) { taken = append(taken, s) })
	each(got, func(s space) {
		for _, other := range taken {
			if s.from < other.to && other.from < s.to {
				t.Errorf("%s: two slices share memory: %v", label, got)
				return
			}
		}
		taken = append(taken, s)
	})
}
