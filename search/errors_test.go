package search_test

import (
	"fmt"
	"testing"

	"isagoge/api"
	"isagoge/proof"
	"isagoge/search"
)

func expectSearchError(t *testing.T, label string, b api.Base, steps int, want api.Errno) {
	t.Helper()
	a, e := search.Search(b, steps)
	expect(t, label+": Search", a, e, api.Answer{}, want)
}

func expectShorterError(t *testing.T, label string, b api.Base, p api.Proof, want api.Errno) {
	t.Helper()
	q, e := search.Shorter(b, p)
	expect(t, label+": Shorter", q, e, api.Proof{}, want)
}

// P8.1: numbers of steps that are out of range.
func TestSteps(t *testing.T) {
	for _, steps := range farNumbers() {
		for _, b := range []api.Base{good(), bad(), based(""), based("a : A" + many), {}} {
			expectSearchError(t, fmt.Sprint(steps), b, steps, api.ErrArg)
		}
	}
}

// R1, R2: knowledge bases that are not valid, before all other errors.
func TestWrongBases(t *testing.T) {
	for k, b := range wrongBases() {
		label := fmt.Sprint("base ", k)
		for _, steps := range append(farNumbers(), 0, 1, api.MaxSteps) {
			expectSearchError(t, label, b, steps, api.ErrBase)
		}
		for _, a := range []api.Answer{{}, {Known: true}, {Consistent: true}, fitting(), broken()} {
			right, e := search.Right(b, a)
			expect(t, label+": Right", right, e, false, api.ErrBase)
		}
		for _, p := range []api.Proof{{}, broken().Proof, leaves(api.MaxProof + 1), {Rule: 9, X: -1}} {
			expectShorterError(t, label, b, p, api.ErrBase)
		}
	}
}

// P8.3: what is no proof, and what is too large, which comes first.
func TestShorterErrors(t *testing.T) {
	disjunction := based("a : (A or A);a : bot")
	for _, p := range []api.Proof{{}, rClash(0, "A"), rClash(2, "bot"), rIncl(0, 0, rClash(0, "bot")), rOr(0, "(A or A)", rClash(0, "bot")), leaves(4), {Rule: 6}} {
		expectShorterError(t, "no proof", disjunction, p, api.ErrProof)
	}
	expectShorterError(t, "no proof for this one", good(), broken().Proof, api.ErrProof)

	large, high := leaves(api.MaxProof+1), rClash(0, "bot")
	for range api.MaxHeight {
		high = rIncl(0, 0, high)
	}
	for _, b := range []api.Base{disjunction, based("A < B;a : bot"), good()} {
		expectShorterError(t, "too large", b, large, api.ErrLarge)
		expectShorterError(t, "too high", b, high, api.ErrLarge)
	}
	q, e := search.Shorter(based("A < B;a : bot"), high.Subs[0])
	if size, height := proof.Size(q); size != 2 || height != 2 || e != api.OK {
		t.Errorf("size %d, height %d, error %d", size, height, e)
	}
	q, e = search.Shorter(disjunction, leaves(api.MaxProof-1))
	if size, height := proof.Size(q); size != 3 || height != 2 || e != api.OK {
		t.Errorf("size %d, height %d, error %d", size, height, e)
	}
}
