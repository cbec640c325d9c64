// Package partial adds clauses of atoms of which some may have got no number: a clause with a literal 0 is left out.
package partial

import (
	"slices"

	"cooper/cnf"
)

// Add adds a clause.
func Add(b *cnf.Builder, l ...int) {
	if !slices.Contains(l, 0) {
		b.Add(l...)
	}
}

// Most adds that at most one is so.
func Most(b *cnf.Builder, l ...int) {
	b.Most(numbered(l)...)
}

// All adds that a literal is so just if all are.
func All(b *cnf.Builder, x int, l ...int) {
	last := []int{x}
	for _, literal := range l {
		Add(b, -x, literal)
		last = append(last, -literal)
	}
	Add(b, last...)
}

// Any adds that a literal is so just if one is.
func Any(b *cnf.Builder, x int, l ...int) {
	Add(b, slices.Concat([]int{-x}, l)...)
	for _, literal := range l {
		Add(b, -literal, x)
	}
}

// numbered are the literals whose atoms have numbers.
func numbered(l []int) []int {
	return slices.DeleteFunc(slices.Clone(l), func(literal int) bool { return literal == 0 })
}
