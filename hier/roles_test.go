package hier_test

import (
	"math/rand"
	"slices"
	"strconv"
	"strings"
	"testing"

	"isagoge/api"
	"isagoge/hier"
	"isagoge/interp"
)

// below returns all pairs of roles of which Below says that the first one is
// below the second one, but for those of a role and itself, as a string.
func below(t *testing.T, b api.Base) string {
	t.Helper()
	var l []string
	for r := range 2 * len(b.Names.Roles) {
		for s := range 2 * len(b.Names.Roles) {
			is, e := hier.Below(b, r, s)
			if e != api.OK {
				t.Fatalf("Below of %d and %d: error %d", r, s, e)
			}
			if is && r != s {
				l = append(l, roleName(b, r)+"<"+roleName(b, s))
			}
			if !is && r == s {
				l = append(l, "not "+roleName(b, r)+"<"+roleName(b, s))
			}
		}
	}
	return strings.Join(l, " ")
}

func roleName(b api.Base, r int) string {
	return b.Names.Roles[r/2] + strings.Repeat("-", r%2)
}

// P5.1: which roles are below which others.
func TestBelow(t *testing.T) {
	for _, c := range []struct{ axioms, want string }{
		{"", ""},
		{"A < some r B;a : all s A;(a, b) : r", ""},
		{"role r < r", ""},
		{"role r- < r-", ""},
		{"role r < s", "r<s r-<s-"},
		{"role r- < s-", "r<s r-<s-"},
		{"role r < s-", "r<s- r-<s"},
		{"role r- < s", "r<s- r-<s"},
		{"role s < r", "s<r s-<r-"},
		{"role r < s;role r < s", "r<s r-<s-"},
		{"role r < s;role s < t", "r<s r<t r-<s- r-<t- s<t s-<t-"},
		{"role s < t;role r < s", "r<s r<t r-<s- r-<t- s<t s-<t-"},
		{"role r- < s-;role s < t", "r<s r<t r-<s- r-<t- s<t s-<t-"},
		{"role r < s;role s- < t-", "r<s r<t r-<s- r-<t- s<t s-<t-"},
		{"role r < s-;role s < t", "r<s- r<t- r-<s r-<t s<t s-<t-"},
		{"role r < s-;role s < t-", "r<s- r<t r-<s r-<t- s<t- s-<t"},
		{"role r < s;role t < s", "r<s r-<s- t<s t-<s-"},
		{"role r < s;role r < t", "r<s r<t r-<s- r-<t-"},
		{"role r < s;role r- < t", "r<s r<t- r-<s- r-<t"},
		{"role r < r-", "r<r- r-<r"},
		{"role r- < r", "r<r- r-<r"},
		{"role r < r-;role r < s", "r<r- r<s r<s- r-<r r-<s r-<s-"},
		{"role s < r;role r < r-", "r<r- r-<r s<r s<r- s-<r s-<r-"},
		{"role r < s;role r < s-", "r<s r<s- r-<s r-<s-"},
		{"role r < s;role s < r", "r<s r-<s- s<r s-<r-"},
		{"role r < s;role s < r-", "r<r- r<s r<s- r-<r r-<s r-<s- s<r s<r- s<s- s-<r s-<r- s-<s"},
		{"role r < s;role s < t;role t < r", "r<s r<t r-<s- r-<t- s<r s<t s-<r- s-<t- t<r t<s t-<r- t-<s-"},
	} {
		if got := below(t, based(c.axioms)); got != c.want {
			t.Errorf("%s: %s, not %s", c.axioms, got, c.want)
		}
	}
}

// P5.1: the roles above a role, in increasing order.
func TestAbove(t *testing.T) {
	for _, c := range []struct {
		axioms string
		role   int
		want   []int
	}{
		{"", 0, []int{0}},
		{"", 5, []int{5}},
		{"role r < s", 4, []int{4}},
		{"role r < s-", 0, []int{0, 3}},
		{"role r < s-", 1, []int{1, 2}},
		{"role r < s-", 2, []int{2}},
		{"role r < s-", 3, []int{3}},
		{"role t < s;role s < r", 4, []int{0, 2, 4}},
		{"role t < s;role s < r", 5, []int{1, 3, 5}},
		{"role t < s;role s < r", 2, []int{0, 2}},
		{"role t- < s;role s < r-", 4, []int{0, 3, 4}},
		{"role t < t-", 4, []int{4, 5}},
		{"role t < r;role t < r-;role t < s-;role t < s;role t < t-", 5, []int{0, 1, 2, 3, 4, 5}},
		{"role s < t-;role t < r;role r < s", 0, []int{0, 1, 2, 3, 4, 5}},
	} {
		got, e := hier.Above(based(c.axioms), c.role)
		expect(t, "Above in "+c.axioms, got, e, c.want, api.OK)
	}
}

// wide is a knowledge base with six roles and 60 role inclusions, of which six
// are a cycle that inverts each second role.
func wide() api.Base {
	b := api.Base{Names: api.Names{Roles: []string{"r", "s", "t", "u", "v", "w"}}}
	for k := range 6 {
		b.Roles = append(b.Roles, api.RoleIncl{Sub: 2 * k, Super: (2*k + 3) % 12})
	}
	b.Roles = slices.Concat(slices.Repeat([]api.RoleIncl{{Sub: 7, Super: 7}}, 54), b.Roles)
	return b
}

// P5.1: all roles that there may be, and all axioms.
func TestManyRoles(t *testing.T) {
	b := wide()
	for r := range 12 {
		want := []int{0, 3, 4, 7, 8, 11}
		if !slices.Contains(want, r) {
			want = []int{1, 2, 5, 6, 9, 10}
		}
		got, e := hier.Above(b, r)
		expect(t, "Above of "+strconv.Itoa(r), got, e, want, api.OK)
		for s := range 12 {
			is, e := hier.Below(b, r, s)
			expect(t, "Below", is, e, slices.Contains(want, s), api.OK)
		}
	}
}

// P5.1: numbers that are not roles.
func TestRolesErrArg(t *testing.T) {
	b := based("role r < s-")
	for _, x := range append(farNumbers(), -2, 6, 7, 12) {
		got, e := hier.Above(b, x)
		expect(t, "Above", got, e, []int(nil), api.ErrArg)
		for _, c := range [][2]int{{x, 0}, {0, x}, {5, x}, {x, x}} {
			is, e := hier.Below(b, c[0], c[1])
			expect(t, "Below", is, e, false, api.ErrArg)
		}
	}
	for _, x := range []int{0, 1, -1} {
		_, e := hier.Above(api.Base{}, x)
		_, f := hier.Below(api.Base{}, x, x)
		expect(t, "no roles", e, f, api.ErrArg, api.ErrArg)
	}
	_, e := hier.Above(wide(), 12)
	expect(t, "the first number that is not a role", nil, e, nil, api.ErrArg)
}

// P5.1 (and R2): the error of the knowledge base comes first.
func TestRolesErrBase(t *testing.T) {
	for _, b := range wrongBases() {
		for _, x := range []int{0, 1, 5, 6, -1} {
			got, e := hier.Above(b, x)
			expect(t, "Above", got, e, []int(nil), api.ErrBase)
			is, e := hier.Below(b, x, 0)
			expect(t, "Below", is, e, false, api.ErrBase)
			is, e = hier.Below(b, 0, x)
			expect(t, "Below", is, e, false, api.ErrBase)
		}
	}
}

// defined returns the least relation between roles that the definition of
// below allows.
func defined(b api.Base) [][]bool {
	count := 2 * len(b.Names.Roles)
	related := make([][]bool, count)
	for r := range related {
		related[r] = make([]bool, count)
	}
	reason := func(r, s int) bool {
		for _, x := range b.Roles {
			if x.Sub == r && related[x.Super][s] || x.Sub == r^1 && related[x.Super][s^1] {
				return true
			}
		}
		return r == s
	}
	for changed := true; changed; {
		changed = false
		for r := range count {
			for s := range count {
				if !related[r][s] && reason(r, s) {
					related[r][s], changed = true, true
				}
			}
		}
	}
	return related
}

// roleBases returns all knowledge bases with at most two role inclusions
// between two roles, and random ones with up to 12 between six.
func roleBases() []api.Base {
	two, six := api.Names{Roles: []string{"r", "s"}}, wide().Names
	l := []api.Base{{Names: two}}
	for k := range 16 {
		first := api.RoleIncl{Sub: k / 4, Super: k % 4}
		l = append(l, api.Base{Names: two, Roles: []api.RoleIncl{first}})
		for m := range 16 {
			l = append(l, api.Base{Names: two, Roles: []api.RoleIncl{first, {Sub: m / 4, Super: m % 4}}})
		}
	}
	r := rand.New(rand.NewSource(1))
	for range 300 {
		b := api.Base{Names: six}
		for range r.Intn(13) {
			b.Roles = append(b.Roles, api.RoleIncl{Sub: r.Intn(12), Super: r.Intn(12)})
		}
		l = append(l, b)
	}
	return l
}

// P5.1: the same by the definition, for many knowledge bases.
func TestRolesByDefinition(t *testing.T) {
	for _, b := range roleBases() {
		related := defined(b)
		for r := range related {
			var want []int
			for s, is := range related[r] {
				got, e := hier.Below(b, r, s)
				expect(t, shown(b.Roles), got, e, is, api.OK)
				if is {
					want = append(want, s)
				}
			}
			got, e := hier.Above(b, r)
			expect(t, shown(b.Roles), got, e, want, api.OK)
		}
	}
}

// P5.3: Below is reflexive and transitive, and the same for inverses.
func TestBelowOrder(t *testing.T) {
	for _, b := range roleBases() {
		count := 2 * len(b.Names.Roles)
		is := func(r, s int) bool {
			yes, e := hier.Below(b, r, s)
			return yes && e == api.OK
		}
		for r := range count {
			above, _ := hier.Above(b, r)
			if !is(r, r) {
				t.Errorf("%v: %d is not below itself", b.Roles, r)
			}
			for s := range count {
				if is(r, s) != is(r^1, s^1) {
					t.Errorf("%v: %d and %d, but not their inverses", b.Roles, r, s)
				}
				for _, u := range above {
					if is(u, s) && !is(r, s) {
						t.Errorf("%v: %d is below %d, this one below %d", b.Roles, r, u, s)
					}
				}
			}
		}
	}
}

// closed adds the pairs to i that it needs to satisfy the role inclusions of b.
func closed(b api.Base, i api.Interp) api.Interp {
	for changed := true; changed; {
		changed = false
		for _, x := range b.Roles {
			for _, p := range slices.Clone(i.Roles[x.Sub/2]) {
				if x.Sub%2 != x.Super%2 {
					p[0], p[1] = p[1], p[0]
				}
				if to := &i.Roles[x.Super/2]; !slices.Contains(*to, p) {
					*to = append(*to, p)
					changed = true
				}
			}
		}
	}
	for _, pairs := range i.Roles {
		slices.SortFunc(pairs, func(p, q [2]int) int { return slices.Compare(p[:], q[:]) })
	}
	return i
}

// P5.3: in models every pair of a role is a pair of the roles above it, and
// there is a model in which some pair of it is a pair of no other role.
func TestPairsInModels(t *testing.T) {
	for _, b := range roleBases() {
		for r := range 2 * len(b.Names.Roles) {
			i := api.Interp{Size: 2, Roles: make([][][2]int, len(b.Names.Roles))}
			i.Roles[r/2] = [][2]int{{r % 2, 1 - r%2}}
			i = closed(b, i)
			if is, e := interp.Models(b, i); !is || e != api.OK {
				t.Fatalf("%v: %v is not a model, error %d", b.Roles, i, e)
			}
			var want []int
			for s := range 2 * len(b.Names.Roles) {
				if pairs, _ := interp.Pairs(b.Names, i, s); slices.Contains(pairs, [2]int{0, 1}) {
					want = append(want, s)
				}
			}
			got, e := hier.Above(b, r)
			expect(t, shown(b.Roles), got, e, want, api.OK)
		}
	}
}

// P5.3: the same in random models.
func TestPairsInRandomModels(t *testing.T) {
	r := rand.New(rand.NewSource(2))
	for _, b := range roleBases() {
		i := api.Interp{Size: 4, Roles: make([][][2]int, len(b.Names.Roles))}
		for range 4 {
			k := r.Intn(len(i.Roles))
			if p := [2]int{r.Intn(4), r.Intn(4)}; !slices.Contains(i.Roles[k], p) {
				i.Roles[k] = append(i.Roles[k], p)
			}
		}
		i = closed(b, i)
		if is, e := interp.Models(b, i); !is || e != api.OK {
			t.Fatalf("%v: %v is not a model, error %d", b.Roles, i, e)
		}
		for role := range 2 * len(b.Names.Roles) {
			pairs, _ := interp.Pairs(b.Names, i, role)
			above, _ := hier.Above(b, role)
			for _, s := range above {
				others, _ := interp.Pairs(b.Names, i, s)
				for _, p := range pairs {
					if !slices.Contains(others, p) {
						t.Errorf("%v: %v is a pair of %d, but not of %d", b.Roles, p, role, s)
					}
				}
			}
		}
	}
}
