package proof_test

import (
	"math/rand"
	"slices"
	"testing"

	"isagoge/api"
	"isagoge/interp"
	"isagoge/kb"
	"isagoge/proof"
	"isagoge/types"
)

// renumbered returns p with other numbers of inclusions.
func renumbered(p api.Proof, number func(n int) int) api.Proof {
	if p.Rule == api.RIncl {
		p.N = number(p.N)
	}
	p.Subs = slices.Clone(p.Subs)
	for k, sub := range p.Subs {
		p.Subs[k] = renumbered(sub, number)
	}
	return p
}

// eachProof calls do for random knowledge bases with proofs.
func eachProof(seed int64, count int, do func(r *rand.Rand, b api.Base, p api.Proof)) {
	r := rand.New(rand.NewSource(seed))
	for range count {
		b := randomBase(r)
		if p, found := proved(r, b); found {
			do(r, b, p)
		}
	}
}

// randomInterp returns an interpretation of the names of b.
func randomInterp(r *rand.Rand, b api.Base) api.Interp {
	i := api.Interp{Size: 1 + r.Intn(3)}
	for range b.Names.Concepts {
		var elements []int
		for x := range i.Size {
			if r.Intn(2) == 0 {
				elements = append(elements, x)
			}
		}
		i.Concepts = append(i.Concepts, elements)
	}
	for range b.Names.Roles {
		var pairs [][2]int
		for x := range i.Size {
			for y := range i.Size {
				if r.Intn(2) == 0 {
					pairs = append(pairs, [2]int{x, y})
				}
			}
		}
		i.Roles = append(i.Roles, pairs)
	}
	for range b.Names.Inds {
		i.Inds = append(i.Inds, r.Intn(i.Size))
	}
	return i
}

// P7.4: a knowledge base with a proof has no model.
func TestSound(t *testing.T) {
	decided := 0
	eachProof(2, 600, func(r *rand.Rand, b api.Base, p api.Proof) {
		if e := proof.Check(b, p); e != api.OK {
			t.Errorf("error %d: %s", e, text(b, p))
		}
		consistent, e := types.Consistent(b)
		if e == api.OK {
			decided++
		}
		if consistent {
			t.Errorf("consistent: %s", text(b, p))
		}
		for range 50 {
			i := randomInterp(r, b)
			if is, e := interp.Models(b, i); is || e != api.OK {
				t.Errorf("%v is a model, error %d: %s", i, e, text(b, p))
			}
		}
	})
	if decided < 100 {
		t.Errorf("%d are decided", decided)
	}
}

// without returns b without an axiom.
func without(b api.Base, axiom int) api.Base {
	count, _ := kb.Axioms(b)
	var kept []int
	for k := range count {
		if k != axiom {
			kept = append(kept, k)
		}
	}
	b, e := kb.Only(b, kept)
	if e != api.OK {
		panic(e)
	}
	return b
}

// P7.4: where a proof misses an axiom without which there is a model, it is
// none. P7.5: where it misses an inclusion that it does not use, it remains one.
func TestWithout(t *testing.T) {
	unused, consistent := 0, 0
	eachProof(3, 500, func(_ *rand.Rand, b api.Base, p api.Proof) {
		used, _ := proof.Uses(b, p)
		count, _ := kb.Axioms(b)
		for axiom := range count {
			lowered := func(n int) int {
				if n > axiom {
					return n - 1
				}
				return n
			}
			fewer, q := without(b, axiom), renumbered(p, lowered)
			if !slices.Contains(used, axiom) {
				unused++
				var want []int
				for _, n := range used {
					want = append(want, lowered(n))
				}
				expectProof(t, text(fewer, q), fewer, q, want)
			}
			if has, e := types.Consistent(fewer); has && e == api.OK {
				consistent++
				for _, wrong := range []api.Proof{p, q} {
					expect(t, text(fewer, wrong), nil, proof.Check(fewer, wrong), nil, api.ErrProof)
				}
			}
		}
	})
	if min(unused, consistent) < 100 {
		t.Errorf("%d unused, %d consistent", unused, consistent)
	}
}

// mixed returns b with further axioms in a random order, and the new numbers of
// the inclusions of b.
func mixed(r *rand.Rand, b, more api.Base) (api.Base, []int) {
	joined, e := kb.Join(more, b)
	if e != api.OK {
		panic(e)
	}
	place := make([]int, len(joined.Incls))
	incls := joined.Incls
	joined.Incls = nil
	for _, k := range r.Perm(len(incls)) {
		place[k] = len(joined.Incls)
		joined.Incls = append(joined.Incls, incls[k])
	}
	slices.Reverse(joined.Roles)
	slices.Reverse(joined.Facts)
	slices.Reverse(joined.Links)
	return joined, place[len(more.Incls):]
}

// P7.5: a proof remains one, with other numbers of inclusions, where there are
// more axioms.
func TestWeakening(t *testing.T) {
	proofs := 0
	eachProof(4, 500, func(r *rand.Rand, b api.Base, p api.Proof) {
		proofs++
		more := randomBase(r)
		joined, _ := kb.Join(b, more)
		expect(t, text(joined, p), nil, proof.Check(joined, p), nil, api.OK)

		joined, place := mixed(r, b, more)
		q := renumbered(p, func(n int) int { return place[n] })
		used, _ := proof.Uses(b, p)
		var want []int
		for _, n := range used {
			if n < len(b.Incls) {
				want = append(want, place[n])
			}
		}
		slices.Sort(want)
		count, _ := kb.Axioms(joined)
		for axiom := len(joined.Incls); axiom < count; axiom++ {
			want = append(want, axiom)
		}
		expectProof(t, text(joined, q), joined, q, want)
	})
	if proofs < 100 {
		t.Errorf("only %d proofs", proofs)
	}
}
