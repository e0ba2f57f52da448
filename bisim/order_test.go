package bisim_test

import (
	"testing"

	"isagoge/api"
	"isagoge/bisim"
)

// failures returns the errors of all calls that take n and i; k is a second
// interpretation.
func failures(n api.Names, i, k api.Interp, x int) []api.Errno {
	_, classes := bisim.Classes(n, i)
	_, bisimilar := bisim.Bisimilar(n, i, k, x, x)
	_, quotient := bisim.Quotient(n, i)
	_, union := bisim.Union(n, i, k)
	_, part := bisim.Part(n, i, []int{x})
	_, _, apart := bisim.Apart(n, i, x, x)
	return []api.Errno{classes, bisimilar, quotient, union, part, apart}
}

// P4.1 to P4.3, with R1 and R2: ErrBase comes first, then ErrInterp, then ErrArg
// or ErrLarge.
func TestErrorOrder(t *testing.T) {
	wrongNames := names()
	wrongNames.Roles[1] = "A"
	good := islands()
	large := api.Interp{Size: 256, Concepts: make([][]int, 2), Roles: make([][][2]int, 2), Inds: []int{0, 0}}
	wrong := islands()
	wrong.Concepts[1] = []int{7, 1}
	const ok, arg, tooLarge, base, noInterp = api.OK, api.ErrArg, api.ErrLarge, api.ErrBase, api.ErrInterp
	for _, c := range []struct {
		label string
		n     api.Names
		i, k  api.Interp
		x     int
		want  []api.Errno
	}{
		{"all valid", names(), good, good, 0, []api.Errno{ok, ok, ok, ok, ok, ok}},
		{"no elements", names(), good, good, 8, []api.Errno{ok, arg, ok, ok, arg, arg}},
		{"too large", names(), good, large, -1, []api.Errno{ok, arg, ok, tooLarge, arg, arg}},
		{"the first one wrong", names(), wrong, good, -1, []api.Errno{noInterp, noInterp, noInterp, noInterp, noInterp, noInterp}},
		{"the second one wrong", names(), good, wrong, 0, []api.Errno{ok, noInterp, ok, noInterp, ok, ok}},
		{"wrong and too large", names(), large, wrong, 256, []api.Errno{ok, noInterp, ok, noInterp, arg, arg}},
		{"wrong names", wrongNames, good, good, 0, []api.Errno{base, base, base, base, base, base}},
		{"everything wrong", wrongNames, wrong, wrong, -1, []api.Errno{base, base, base, base, base, base}},
	} {
		expect(t, c.label, failures(c.n, c.i, c.k, c.x), api.OK, c.want, api.OK)
	}
}
