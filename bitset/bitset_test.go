package bitset_test

import (
	"math/rand"
	"slices"
	"testing"

	"isagoge/bitset"
)

type number int

type set = bitset.Set[number]

// someLists returns lists of numbers in increasing order: all of the first and
// the last number of each word of 64 bits by itself, and random ones.
func someLists() [][]number {
	lists := [][]number{nil}
	for _, k := range []number{0, 1, 62, 63, 64, 65, 127, 128, 191, 192, 254, 255} {
		lists = append(lists, []number{k})
	}
	r := rand.New(rand.NewSource(1))
	for _, share := range []int{1, 2, 2, 3, 20, 100} {
		var list []number
		for k := range number(bitset.Limit) {
			if r.Intn(share) == 0 {
				list = append(list, k)
			}
		}
		lists = append(lists, list)
	}
	return lists
}

// of returns the set of a list, whose numbers it adds from the last to the
// first one, and the first one twice.
func of(list []number) set {
	var s set
	for _, k := range slices.Backward(list) {
		s = s.With(k)
	}
	if len(list) > 0 {
		s = s.With(list[0])
	}
	return s
}

// chosen returns the numbers that are as wanted.
func chosen(wanted func(k number) bool) []number {
	var list []number
	for k := range number(bitset.Limit) {
		if wanted(k) {
			list = append(list, k)
		}
	}
	return list
}

func expect(t *testing.T, label string, s set, want []number) {
	t.Helper()
	if got := slices.Collect(s.All()); !slices.Equal(got, want) {
		t.Errorf("%s: %v, not %v", label, got, want)
	}
	if s != of(want) {
		t.Errorf("%s: not equal to the set of %v", label, want)
	}
}

func TestNumbers(t *testing.T) {
	for _, list := range someLists() {
		s := of(list)
		expect(t, "the same numbers", s, list)
		expect(t, "all that it has", s, chosen(s.Has))
		if s.Len() != len(list) {
			t.Errorf("Len of %v: %d", list, s.Len())
		}
	}
}

func TestBelow(t *testing.T) {
	for _, limit := range []number{0, 1, 2, 63, 64, 65, 128, 200, 255, 256} {
		expect(t, "Below", bitset.Below(limit), chosen(func(k number) bool { return k < limit }))
	}
}

func TestOperations(t *testing.T) {
	for _, list := range someLists() {
		for _, other := range someLists() {
			s, u := of(list), of(other)
			in := func(k number) bool { return slices.Contains(list, k) }
			inOther := func(k number) bool { return slices.Contains(other, k) }
			both := chosen(func(k number) bool { return in(k) && inOther(k) })
			rest := chosen(func(k number) bool { return in(k) && !inOther(k) })
			expect(t, "And", s.And(u), both)
			expect(t, "Or", s.Or(u), chosen(func(k number) bool { return in(k) || inOther(k) }))
			expect(t, "Minus", s.Minus(u), rest)
			if s.Within(u) != (len(rest) == 0) {
				t.Errorf("Within of %v and %v", list, other)
			}
			if s.Meets(u) != (len(both) > 0) {
				t.Errorf("Meets of %v and %v", list, other)
			}
			expect(t, "a set that was used", s, list)
			expect(t, "the other set that was used", u, other)
		}
	}
}

// All stops when it is asked to.
func TestAllStops(t *testing.T) {
	var met []number
	for k := range of([]number{3, 64, 65, 200}).All() {
		met = append(met, k)
		if k == 64 {
			break
		}
	}
	if !slices.Equal(met, []number{3, 64}) {
		t.Errorf("All yields %v before it is stopped", met)
	}
}
