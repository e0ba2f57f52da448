// Package bitset has sets of small numbers, for all layers that combine such
// sets.
package bitset

import (
	"iter"
	"math/bits"

	"isagoge/api"
)

// Limit is the number of numbers that a set may contain: it has room for the
// elements of every interpretation, and for all types of MaxMarks marks.
const Limit = api.MaxDomain

const wordSize = 64

// A Set is a set of numbers from 0 to Limit - 1. It is a value: the zero value
// is the empty set, and sets are equal (==) if they contain the same numbers.
type Set[E ~int] [(Limit + wordSize - 1) / wordSize]uint64

// Below returns the set of the numbers from 0 to limit - 1.
func Below[E ~int](limit E) Set[E] {
	var s Set[E]
	for e := range limit {
		s = s.With(e)
	}
	return s
}

// With returns the set that contains e and the numbers of s.
func (s Set[E]) With(e E) Set[E] {
	s[e/wordSize] |= 1 << (e % wordSize)
	return s
}

// Has reports whether e is in s.
func (s Set[E]) Has(e E) bool {
	return s[e/wordSize]>>(e%wordSize)&1 == 1
}

// And returns the set of the numbers that are in both.
func (s Set[E]) And(t Set[E]) Set[E] {
	for k := range s {
		s[k] &= t[k]
	}
	return s
}

// Or returns the set of the numbers that are in at least one of both.
func (s Set[E]) Or(t Set[E]) Set[E] {
	for k := range s {
		s[k] |= t[k]
	}
	return s
}

// Minus returns the set of the numbers that are in s and not in t.
func (s Set[E]) Minus(t Set[E]) Set[E] {
	for k := range s {
		s[k] &^= t[k]
	}
	return s
}

// Within reports whether all numbers of s are in t.
func (s Set[E]) Within(t Set[E]) bool {
	return s.Minus(t) == Set[E]{}
}

// Meets reports whether some number is in both.
func (s Set[E]) Meets(t Set[E]) bool {
	return s.And(t) != Set[E]{}
}

// Len returns how many numbers are in s.
func (s Set[E]) Len() int {
	count := 0
	for _, word := range s {
		count += bits.OnesCount64(word)
	}
	return count
}

// All yields the numbers of s in increasing order.
func (s Set[E]) All() iter.Seq[E] {
	return func(yield func(E) bool) {
		for k, word := range s {
			for ; word != 0; word &= word - 1 {
				if !yield(E(k*wordSize + bits.TrailingZeros64(word))) {
					return
				}
			}
		}
	}
}
