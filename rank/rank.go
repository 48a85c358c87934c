// Package rank compares terms and atoms that are known to be valid: what order and the layers above it do behind their checks.
package rank

import (
	"slices"

	"quaere/api"
	"quaere/shape"
)

// Compare tells whether a is more than b, b more than a, both are equal, or none of these; sig is known to be valid, and a and b to be two terms or two atoms.
func Compare(sig []api.Sym, a, b []int) int {
	switch {
	case slices.Equal(a, b):
		return api.OrderSame
	case more(sig, a, b):
		return api.OrderMore
	case more(sig, b, a):
		return api.OrderLess
	}
	return api.OrderNone
}

// Weight is not that of layer 2, which is of rows: an atom is none, its predicate counts too.
func Weight(sig []api.Sym, a []int) int {
	sum := 0
	for _, code := range a {
		if code < 0 {
			sum++
		} else {
			sum += sig[code].Weight
		}
	}
	return sum
}

// more tells whether a is more than b; they are known to be different.
func more(sig []api.Sym, a, b []int) bool {
	for hasVariablesOf(a, b) {
		if m, n := Weight(sig, a), Weight(sig, b); m != n {
			return m > n
		}
		if a[0] != b[0] {
			return a[0] > b[0]
		}
		a, b = firstDifferent(sig, a[1:], b[1:])
	}
	return false
}

// hasVariablesOf tells whether each variable occurs in a at least as often as in b.
func hasVariablesOf(a, b []int) bool {
	var spare [api.MaxVar + 1]int
	for _, code := range a {
		if code < 0 {
			spare[-1-code]++
		}
	}
	for _, code := range b {
		if code >= 0 {
			continue
		}
		spare[-1-code]--
		if spare[-1-code] < 0 {
			return false
		}
	}
	return true
}

// firstDifferent returns the first terms at equal places of two rows that differ; the rows are known to have as many terms, and to be different.
func firstDifferent(sig []api.Sym, a, b []int) ([]int, []int) {
	for {
		m, n := shape.FirstTerm(sig, a), shape.FirstTerm(sig, b)
		if !slices.Equal(a[:m], b[:n]) {
			return a[:m], b[:n]
		}
		a, b = a[m:], b[n:]
	}
}
