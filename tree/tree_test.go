package tree_test

import (
	"reflect"
	"testing"

	"isagoge/api"
	"isagoge/tree"
)

func TestCopy(t *testing.T) {
	build := func() api.Concept {
		a := api.Concept{Op: api.CName, N: 1}
		not := api.Concept{Op: api.CNot, Args: []api.Concept{a}}
		return api.Concept{Op: api.CSome, N: 3, Args: []api.Concept{{Op: api.CAnd, Args: []api.Concept{a, not}}}}
	}
	c := build()
	d := tree.Copy(c)
	if !reflect.DeepEqual(c, d) {
		t.Errorf("the copy of %v is %v", c, d)
	}
	d.Args[0].Args[1].Args[0].N = 7
	d.Args[0].Args[0].N = 7
	d.Args[0].Op = api.COr
	if !reflect.DeepEqual(c, build()) {
		t.Errorf("the copy shares memory with the concept: %v", c)
	}
}

// Places that share a slice get slices of their own.
func TestCopyOfShared(t *testing.T) {
	args := []api.Concept{{Op: api.CTop}}
	not := api.Concept{Op: api.CNot, Args: args}
	d := tree.Copy(api.Concept{Op: api.CAnd, Args: []api.Concept{not, not}})
	d.Args[0].Args[0].Op = api.CBot
	if d.Args[1].Args[0].Op != api.CTop || args[0].Op != api.CTop {
		t.Errorf("both sides share memory: %v", d)
	}
}

func TestDual(t *testing.T) {
	for _, pair := range [][2]int{{api.CTop, api.CBot}, {api.CAnd, api.COr}, {api.CSome, api.CAll}} {
		if tree.Dual(pair[0]) != pair[1] || tree.Dual(pair[1]) != pair[0] {
			t.Errorf("%d and %d are no duals", pair[0], pair[1])
		}
	}
}
