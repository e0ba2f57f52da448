// Package rules_test checks what DOC.md promises of all calls of all layers:
// P1, and the rules R2, R3, R4 and R7.
package rules_test

import (
	"math/rand"
	"reflect"
	"testing"

	"isagoge/bisim"
	"isagoge/concept"
	"isagoge/hier"
	"isagoge/interp"
	"isagoge/kb"
	"isagoge/proof"
	"isagoge/search"
	"isagoge/task"
	"isagoge/types"
)

// A call is an exported function of a layer.
type call struct {
	name string
	f    any
}

// calls are the functions that the chapters of the finished layers list, but
// for those of treeCalls.
func calls() []call {
	return []call{
		{"concept.Names", concept.Names},
		{"concept.Check", concept.Check},
		{"concept.Normal", concept.Normal},
		{"concept.Not", concept.Not},
		{"concept.Subs", concept.Subs},
		{"concept.Uses", concept.Uses},
		{"concept.String", concept.String},
		{"concept.Parse", concept.Parse},

		{"kb.Check", kb.Check},
		{"kb.Axioms", kb.Axioms},
		{"kb.Only", kb.Only},
		{"kb.Line", kb.Line},
		{"kb.Join", kb.Join},
		{"kb.Uses", kb.Uses},
		{"kb.String", kb.String},
		{"kb.Parse", kb.Parse},

		{"interp.Check", interp.Check},
		{"interp.Elements", interp.Elements},
		{"interp.Pairs", interp.Pairs},
		{"interp.True", interp.True},
		{"interp.Models", interp.Models},
		{"interp.Wrong", interp.Wrong},
		{"interp.Included", interp.Included},

		{"bisim.Classes", bisim.Classes},
		{"bisim.Bisimilar", bisim.Bisimilar},
		{"bisim.Quotient", bisim.Quotient},
		{"bisim.Union", bisim.Union},
		{"bisim.Part", bisim.Part},
		{"bisim.Apart", bisim.Apart},

		{"hier.Below", hier.Below},
		{"hier.Above", hier.Above},
		{"hier.Marks", hier.Marks},
		{"hier.True", hier.True},

		{"types.Possible", types.Possible},
		{"types.Surviving", types.Surviving},
		{"types.Satisfiable", types.Satisfiable},
		{"types.Assign", types.Assign},
		{"types.Consistent", types.Consistent},
		{"types.Model", types.Model},

		{"proof.Check", proof.Check},
		{"proof.Fault", proof.Fault},
		{"proof.Uses", proof.Uses},

		{"search.Search", search.Search},
		{"search.Right", search.Right},
		{"search.Shorter", search.Shorter},

		{"task.Test", task.Test},
		{"task.Entails", task.Entails},
		{"task.Right", task.Right},
		{"task.Axiom", task.Axiom},
		{"task.Classify", task.Classify},
	}
}

// treeCalls are the functions that take any tree: they look at all of it, so
// that only one of a size that can be counted suits them.
func treeCalls() []call {
	return []call{
		{"concept.Size", concept.Size},
		{"concept.Same", concept.Same},
		{"proof.Size", proof.Size},
	}
}

// run calls c and returns its results.
func (c call) run(arguments []reflect.Value) []any {
	var results []any
	for _, v := range reflect.ValueOf(c.f).Call(arguments) {
		results = append(results, v.Interface())
	}
	return results
}

// each calls do with all choices of an argument for each parameter of c, or
// with as many random ones as most says if there are more.
func (c call) each(t *testing.T, p pool, most int, do func(arguments []sample)) {
	t.Helper()
	parameters := reflect.TypeOf(c.f)
	total := 1
	for k := range parameters.NumIn() {
		total *= len(p[parameters.In(k)])
	}
	if total == 0 {
		t.Fatalf("%s has a parameter without arguments", c.name)
	}
	r := rand.New(rand.NewSource(1))
	for choice := range min(total, most) {
		if total > most {
			choice = r.Intn(total)
		}
		var arguments []sample
		for k := range parameters.NumIn() {
			samples := p[parameters.In(k)]
			arguments = append(arguments, samples[choice%len(samples)])
			choice /= len(samples)
		}
		do(arguments)
	}
}
