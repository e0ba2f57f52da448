package interp_test

import (
	"math"
	"testing"

	"isagoge/api"
	"isagoge/interp"
)

func checked(t *testing.T, n api.Names, i api.Interp, want api.Errno) {
	t.Helper()
	if e := interp.Check(n, i); e != want {
		t.Errorf("Check of %.200s: error %d, not %d", shown(i), e, want)
	}
}

// P3.1: interpretations, and values that are none for one reason.
func TestCheck(t *testing.T) {
	for _, i := range []api.Interp{three(), single(), path()} {
		checked(t, names(), i, api.OK)
	}
	for _, i := range wrongInterps() {
		checked(t, names(), i, api.ErrInterp)
	}
	checked(t, names(), api.Interp{}, api.ErrInterp)
}

// P3.1: ErrBase comes before ErrInterp.
func TestCheckNames(t *testing.T) {
	for _, n := range wrongNames() {
		for _, i := range append(wrongInterps(), three(), api.Interp{}) {
			checked(t, n, i, api.ErrBase)
		}
	}
}

// P3.1: the number of elements.
func TestCheckSize(t *testing.T) {
	for _, size := range []int{1, 2, 64, 65, 255, 256} {
		checked(t, api.Names{}, api.Interp{Size: size}, api.OK)
		i := single()
		i.Size = size
		checked(t, names(), i, api.OK)
	}
	for _, size := range []int{0, -1, -256, 257, 512, 1 << 32, math.MaxInt, math.MinInt} {
		checked(t, api.Names{}, api.Interp{Size: size}, api.ErrInterp)
		i := single()
		i.Size = size
		checked(t, names(), i, api.ErrInterp)
	}
}

// P3.1: one entry for each name, neither fewer nor more.
func TestCheckEntries(t *testing.T) {
	for _, c := range []struct {
		concepts, roles, inds int
		want                  api.Errno
	}{
		{3, 2, 2, api.OK},
		{2, 2, 2, api.ErrInterp}, {4, 2, 2, api.ErrInterp}, {0, 2, 2, api.ErrInterp},
		{3, 1, 2, api.ErrInterp}, {3, 3, 2, api.ErrInterp}, {3, 4, 2, api.ErrInterp}, {3, 0, 2, api.ErrInterp},
		{3, 2, 1, api.ErrInterp}, {3, 2, 3, api.ErrInterp}, {3, 2, 0, api.ErrInterp},
		{2, 3, 2, api.ErrInterp}, {2, 2, 3, api.ErrInterp}, {0, 0, 0, api.ErrInterp},
	} {
		checked(t, names(), api.Interp{Size: 2, Concepts: make([][]int, c.concepts), Roles: make([][][2]int, c.roles), Inds: make([]int, c.inds)}, c.want)
	}
	checked(t, api.Names{}, api.Interp{Size: 1, Concepts: [][]int{}, Inds: []int{}}, api.OK)
	checked(t, api.Names{}, api.Interp{Size: 1, Concepts: [][]int{nil}}, api.ErrInterp)
	checked(t, api.Names{}, api.Interp{Size: 1, Roles: [][][2]int{nil}}, api.ErrInterp)
	checked(t, api.Names{}, api.Interp{Size: 1, Inds: []int{0}}, api.ErrInterp)
}

// P3.1: the elements of concept names, in each place.
func TestCheckConcepts(t *testing.T) {
	for _, c := range []struct {
		list []int
		want api.Errno
	}{
		{nil, api.OK}, {[]int{}, api.OK}, {[]int{0}, api.OK}, {[]int{2}, api.OK}, {[]int{0, 2}, api.OK}, {[]int{0, 1, 2}, api.OK},
		{[]int{3}, api.ErrInterp}, {[]int{-1}, api.ErrInterp}, {[]int{-1, 0}, api.ErrInterp}, {[]int{0, 1, 2, 3}, api.ErrInterp},
		{[]int{math.MinInt}, api.ErrInterp}, {[]int{math.MaxInt}, api.ErrInterp}, {[]int{0, math.MaxInt}, api.ErrInterp},
		{[]int{0, 0}, api.ErrInterp}, {[]int{1, 0}, api.ErrInterp}, {[]int{0, 2, 2}, api.ErrInterp}, {[]int{0, 2, 1}, api.ErrInterp}, {[]int{1, 0, 2}, api.ErrInterp},
	} {
		for k := range 3 {
			i := three()
			i.Concepts[k] = c.list
			checked(t, names(), i, c.want)
		}
	}
}

// P3.1: the pairs of role names, in each place.
func TestCheckRoles(t *testing.T) {
	for _, c := range []struct {
		list [][2]int
		want api.Errno
	}{
		{nil, api.OK}, {[][2]int{}, api.OK}, {[][2]int{{2, 2}}, api.OK}, {[][2]int{{0, 2}, {1, 0}}, api.OK}, {[][2]int{{1, 0}, {1, 1}, {1, 2}, {2, 0}}, api.OK},
		{[][2]int{{3, 0}}, api.ErrInterp}, {[][2]int{{0, 3}}, api.ErrInterp}, {[][2]int{{-1, 0}}, api.ErrInterp}, {[][2]int{{0, -1}}, api.ErrInterp},
		{[][2]int{{0, 0}, {0, 3}}, api.ErrInterp}, {[][2]int{{0, 0}, {3, 0}}, api.ErrInterp},
		{[][2]int{{math.MinInt, 0}}, api.ErrInterp}, {[][2]int{{0, math.MaxInt}}, api.ErrInterp},
		{[][2]int{{1, 1}, {1, 1}}, api.ErrInterp}, {[][2]int{{1, 1}, {1, 0}}, api.ErrInterp}, {[][2]int{{1, 0}, {0, 1}}, api.ErrInterp}, {[][2]int{{1, 0}, {0, 0}}, api.ErrInterp},
		{[][2]int{{0, 0}, {1, 2}, {2, 1}, {2, 1}}, api.ErrInterp}, {[][2]int{{0, 0}, {1, 2}, {1, 1}, {2, 1}}, api.ErrInterp}, {[][2]int{{0, 1}, {0, 0}, {1, 0}}, api.ErrInterp},
	} {
		for k := range 2 {
			i := three()
			i.Roles[k] = c.list
			checked(t, names(), i, c.want)
		}
	}
}

// P3.1: the elements of individuals, in each place.
func TestCheckInds(t *testing.T) {
	for _, x := range []int{math.MinInt, -3, -1, 0, 1, 2, 3, 4, 256, math.MaxInt} {
		want := api.ErrInterp
		if 0 <= x && x < 3 {
			want = api.OK
		}
		for k := range 2 {
			i := three()
			i.Inds[k] = x
			checked(t, names(), i, want)
		}
	}
	i := three()
	i.Inds = []int{1, 1}
	checked(t, names(), i, api.OK)
}
