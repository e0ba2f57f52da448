package rules_test

import (
	"fmt"
	"reflect"
	"slices"
	"testing"

	"isagoge/api"
)

// valuesOf returns the values of samples, each changed by a function.
func valuesOf(samples []sample, change func(v reflect.Value) reflect.Value) []reflect.Value {
	var l []reflect.Value
	for _, s := range samples {
		l = append(l, change(s.value))
	}
	return l
}

func unchanged(v reflect.Value) reflect.Value {
	return v
}

// errorOf returns the error among results: their last one.
func errorOf(results []any) api.Errno {
	e, _ := results[len(results)-1].(api.Errno)
	return e
}

// failed reports whether results contain an error, or a false.
func failed(results []any) bool {
	return errorOf(results) != api.OK || slices.Contains(results, any(false))
}

// described returns a call as a short string.
func described(c call, arguments []reflect.Value) string {
	return fmt.Sprintf("%s of %.300s", c.name, fmt.Sprint(arguments))
}

// P1: all calls return, for all arguments.
func TestCallsReturn(t *testing.T) {
	p := hostile()
	for _, c := range calls() {
		c.each(t, p, 3000, func(s []sample) { c.run(valuesOf(s, unchanged)) })
	}
}

// invalid returns the error of arguments that are not valid, or OK.
func invalid(samples []sample) api.Errno {
	of := func(types ...reflect.Type) bool {
		for _, s := range samples {
			for _, t := range types {
				if !s.valid && s.value.Type() == t {
					return true
				}
			}
		}
		return false
	}
	switch {
	case of(reflect.TypeFor[api.Names](), reflect.TypeFor[api.Base]()):
		return api.ErrBase
	case of(reflect.TypeFor[api.Concept](), reflect.TypeFor[[]api.Concept]()):
		return api.ErrConcept
	case of(reflect.TypeFor[api.Interp]()):
		return api.ErrInterp
	case of(reflect.TypeFor[api.Axiom]()):
		return api.ErrArg
	}
	return api.OK
}

// R2: arguments that are not valid, before all other errors and in the order
// of the rule.
func TestValidArguments(t *testing.T) {
	p := usual()
	for _, c := range calls() {
		met := map[api.Errno]bool{}
		c.each(t, p, 20000, func(s []sample) {
			arguments := valuesOf(s, unchanged)
			got, want := errorOf(c.run(arguments)), invalid(s)
			met[got] = true
			if want != api.OK && got != want {
				t.Errorf("%s: error %d, not %d", described(c, arguments), got, want)
			}
		})
		if !met[api.OK] {
			t.Errorf("%s: no arguments were accepted", c.name)
		}
	}
}

// R3 and R7: results next to an error or a false are zero values, and a call that is
// repeated returns the same.
func TestRepeatedCalls(t *testing.T) {
	p := usual()
	for _, c := range append(calls(), treeCalls()...) {
		c.each(t, p, 1000, func(s []sample) {
			arguments := valuesOf(s, unchanged)
			first := c.run(arguments)
			if second := c.run(arguments); !reflect.DeepEqual(first, second) {
				t.Errorf("%s: %v, then %v", described(c, arguments), first, second)
			}
			for _, v := range first[:len(first)-1] {
				if failed(first) && !empty(v) {
					t.Errorf("%s: %v with an error or with false", described(c, arguments), first)
				}
			}
		})
	}
}

// R4: arguments are not modified, and what lies beyond the length of a slice is
// neither read nor written.
func TestArgumentsStay(t *testing.T) {
	p := usual()
	for _, c := range append(calls(), treeCalls()...) {
		c.each(t, p, 500, func(s []sample) {
			arguments := valuesOf(s, roomy)
			before := memory(arguments)
			results := c.run(arguments)
			if after := memory(arguments); after != before {
				t.Errorf("%s: %.300s, afterwards %.300s", c.name, before, after)
			}
			if want := c.run(valuesOf(s, unchanged)); !reflect.DeepEqual(results, want) {
				t.Errorf("%s: %v, not %v", described(c, arguments), results, want)
			}
		})
	}
}

// R4: no two slices of the results, and no slice of the results and one of the
// arguments, share memory.
func TestResultsAreNew(t *testing.T) {
	p := usual()
	for _, c := range append(calls(), treeCalls()...) {
		c.each(t, p, 500, func(s []sample) {
			for _, change := range []func(v reflect.Value) reflect.Value{unchanged, roomy} {
				arguments := valuesOf(s, change)
				if results := c.run(arguments); !apart(results, arguments) {
					t.Errorf("%s: %v shares memory", described(c, arguments), results)
				}
			}
		})
	}
}
