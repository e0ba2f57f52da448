package types_test

import (
	"math/rand"
	"slices"
	"testing"

	"isagoge/api"
	"isagoge/concept"
	"isagoge/hier"
	"isagoge/types"
)

// A definition follows the section Terms of the chapter by the letter.
type definition struct {
	b     api.Base
	more  []api.Concept
	marks []api.Concept
	// below has the roles that are below others.
	below map[[2]int]bool
	// truths has the truths of concepts in all types, by their strings.
	truths map[string][]bool
}

// defined returns the definition for a knowledge base, and false if it has too
// many marks.
func defined(t *testing.T, b api.Base, more []api.Concept) (*definition, bool) {
	t.Helper()
	marks, e := hier.Marks(b, more)
	if e != api.OK && e != api.ErrSpace {
		t.Fatalf("Marks: error %d", e)
	}
	d := &definition{b, more, marks, map[[2]int]bool{}, map[string][]bool{}}
	for r := range 2 * len(b.Names.Roles) {
		for s := range 2 * len(b.Names.Roles) {
			is, _ := hier.Below(b, r, s)
			d.below[[2]int{r, s}] = is
		}
	}
	return d, e == api.OK
}

func (d *definition) count() int {
	return 1 << len(d.marks)
}

// holds reports whether c is true in the type t.
func (d *definition) holds(t int, c api.Concept) bool {
	s, e := concept.String(d.b.Names, c)
	if e != api.OK {
		panic(e)
	}
	if d.truths[s] == nil {
		for t := range d.count() {
			is, e := hier.True(d.b, d.more, t, c)
			if e != api.OK {
				panic(e)
			}
			d.truths[s] = append(d.truths[s], is)
		}
	}
	return d.truths[s][t]
}

// possible reports whether u is a possible r-successor of t.
func (d *definition) possible(r, t, u int) bool {
	for s := range 2 * len(d.b.Names.Roles) {
		if !d.below[[2]int{r, s}] {
			continue
		}
		for k, mark := range d.marks {
			if mark.Op != api.CSome {
				continue
			}
			inT, inU := t>>k&1 == 1, u>>k&1 == 1
			if mark.N == s && !inT && d.holds(u, mark.Args[0]) {
				return false
			}
			if mark.N == s^1 && !inU && d.holds(t, mark.Args[0]) {
				return false
			}
		}
	}
	return true
}

// allowed reports whether all inclusions are true in t.
func (d *definition) allowed(t int) bool {
	for _, x := range d.b.Incls {
		if !d.holds(t, or(not(x.Sub), x.Super)) {
			return false
		}
	}
	return true
}

// served reports whether each mark some r C in t has a witness in a set.
func (d *definition) served(t int, set map[int]bool) bool {
	for k, mark := range d.marks {
		if mark.Op != api.CSome || t>>k&1 == 0 {
			continue
		}
		found := false
		for u := range d.count() {
			found = found || set[u] && d.holds(u, mark.Args[0]) && d.possible(mark.N, t, u)
		}
		if !found {
			return false
		}
	}
	return true
}

// surviving returns the largest set of which all types are served: types that
// are not are removed one by one, the last one first.
func (d *definition) surviving() []int {
	set := map[int]bool{}
	for t := range d.count() {
		if d.allowed(t) {
			set[t] = true
		}
	}
	for t := d.count() - 1; t >= 0; t-- {
		if set[t] && !d.served(t, set) {
			delete(set, t)
			t = d.count()
		}
	}
	var l []int
	for t := range d.count() {
		if set[t] {
			l = append(l, t)
		}
	}
	return l
}

// right reports whether types for the individuals are an assignment.
func (d *definition) right(of []int) bool {
	for _, x := range d.b.Facts {
		if !d.holds(of[x.Ind], x.Concept) {
			return false
		}
	}
	for _, x := range d.b.Links {
		if !d.possible(2*x.Role, of[x.From], of[x.To]) {
			return false
		}
	}
	return true
}

// assignments returns all assignments for two individuals, in their order.
func (d *definition) assignments(alive []int) [][]int {
	var l [][]int
	for _, t := range alive {
		for _, u := range alive {
			if d.right([]int{t, u}) {
				l = append(l, []int{t, u})
			}
		}
	}
	return l
}

// model returns the type model.
func (d *definition) model(alive, of []int) api.Interp {
	i := api.Interp{Size: len(alive)}
	for k := range d.b.Names.Concepts {
		place := slices.IndexFunc(d.marks, func(c api.Concept) bool { return concept.Same(c, name(k)) })
		var elements []int
		for x, t := range alive {
			if place >= 0 && t>>place&1 == 1 {
				elements = append(elements, x)
			}
		}
		i.Concepts = append(i.Concepts, elements)
	}
	for k := range d.b.Names.Roles {
		var pairs [][2]int
		for x, t := range alive {
			for y, u := range alive {
				if d.possible(2*k, t, u) {
					pairs = append(pairs, [2]int{x, y})
				}
			}
		}
		i.Roles = append(i.Roles, pairs)
	}
	for _, t := range of {
		i.Inds = append(i.Inds, slices.Index(alive, t))
	}
	return i
}

// checkAll checks the results of all functions for a knowledge base, and
// returns how many types survive and how many assignments there are.
func checkAll(t *testing.T, d *definition) (survivors, assignments int) {
	t.Helper()
	label := text(d.b, d.more)
	alive := d.surviving()
	got, e := types.Surviving(d.b, d.more)
	expect(t, "Surviving of "+label, got, e, alive, api.OK)

	var want []int
	var model api.Interp
	wantError := api.ErrNone
	all := d.assignments(alive)
	if len(all) > 0 {
		want, model, wantError = all[0], d.model(alive, all[0]), api.OK
	}
	got, e = types.Assign(d.b, d.more)
	expect(t, "Assign of "+label, got, e, want, wantError)
	i, e := types.Model(d.b, d.more)
	expect(t, "Model of "+label, i, e, model, wantError)
	return len(alive), len(all)
}

// P6.1, P6.3: the same by the definition, for many knowledge bases.
func TestByDefinition(t *testing.T) {
	r := rand.New(rand.NewSource(1))
	none, unassigned, several := 0, 0, 0
	for range 1200 {
		b, more := randomBase(r)
		d, few := defined(t, b, more)
		if !few || len(d.marks) > 5 {
			continue
		}
		switch survivors, assignments := checkAll(t, d); {
		case survivors == 0:
			none++
		case assignments == 0:
			unassigned++
		case assignments > 1 && len(b.Facts)+len(b.Links) > 2:
			several++
		}
	}
	if min(none, unassigned, several) < 40 {
		t.Errorf("%d without types, %d without assignments, %d with several", none, unassigned, several)
	}
}

// P6.1: the possible successors of all types by the definition.
func TestPossibleByDefinition(t *testing.T) {
	r := rand.New(rand.NewSource(2))
	met := map[bool]int{}
	for range 150 {
		b, more := randomBase(r)
		d, few := defined(t, b, more)
		if !few || len(d.marks) > 4 {
			continue
		}
		for role := range 6 {
			for x := range d.count() {
				for y := range d.count() {
					want := d.possible(role, x, y)
					met[want]++
					got, e := types.Possible(b, more, role, x, y)
					expect(t, "Possible of "+text(b, more), got, e, want, api.OK)
				}
			}
		}
	}
	if min(met[true], met[false]) < 5000 {
		t.Errorf("%d are possible, %d are not", met[true], met[false])
	}
}

// P6.2: Satisfiable by the definition, for concepts of all kinds.
func TestSatisfiableByDefinition(t *testing.T) {
	r := rand.New(rand.NewSource(3))
	met := map[bool]int{}
	for range 1200 {
		b, _ := randomBase(r)
		c := random(r, 1+r.Intn(4))
		d, few := defined(t, b, []api.Concept{c})
		if !few || len(d.marks) > 6 {
			continue
		}
		want := slices.ContainsFunc(d.surviving(), func(t int) bool { return d.holds(t, c) })
		met[want]++
		got, e := types.Satisfiable(b, c)
		expect(t, "Satisfiable of "+text(b, d.more), got, e, want, api.OK)
	}
	if min(met[true], met[false]) < 100 {
		t.Errorf("%d are satisfiable, %d are not", met[true], met[false])
	}
}

// P6.3: Consistent is whether there is an assignment, without further concepts.
func TestConsistentByDefinition(t *testing.T) {
	r := rand.New(rand.NewSource(4))
	met := map[bool]int{}
	for range 1200 {
		b, _ := randomBase(r)
		d, few := defined(t, b, nil)
		if !few || len(d.marks) > 5 {
			continue
		}
		want := len(d.assignments(d.surviving())) > 0
		met[want]++
		got, e := types.Consistent(b)
		expect(t, "Consistent of "+text(b, nil), got, e, want, api.OK)
	}
	if min(met[true], met[false]) < 100 {
		t.Errorf("%d are consistent, %d are not", met[true], met[false])
	}
}
