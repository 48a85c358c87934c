// Package shape tells what a list of codes is: what the layers above terms ask before they work.
package shape

import (
	"slices"

	"quaere/api"
	"quaere/term"
)

// IsRow tells whether sig is valid and r is a row.
func IsRow(sig []api.Sym, r []int) bool {
	_, e := term.Row(sig, r)
	return e == api.OK
}

// IsTerm tells whether sig is valid and r is a row of one term.
func IsTerm(sig []api.Sym, r []int) bool {
	n, e := term.Row(sig, r)
	return e == api.OK && n == 1
}

// IsAtom tells whether sig is valid and r is an atom.
func IsAtom(sig []api.Sym, r []int) bool {
	if len(r) == 0 || r[0] < 0 || r[0] >= len(sig) || sig[r[0]].Kind != api.KindPred {
		return false
	}
	n, e := term.Row(sig, r[1:])
	return e == api.OK && n == sig[r[0]].Arity
}

// FirstTerm returns the number of codes of the first term of r, which is known to be a row with a term.
func FirstTerm(sig []api.Sym, r []int) int {
	n := 0
	for open := 1; open > 0; n++ {
		open--
		if r[n] >= 0 {
			open += sig[r[n]].Arity
		}
	}
	return n
}

// SameLit tells whether two literals are equal: they have the same Neg and the same Atom.
func SameLit(l, m api.Lit) bool {
	return l.Neg == m.Neg && slices.Equal(l.Atom, m.Atom)
}

// HasLit tells whether a literal equal to l is in ls.
func HasLit(ls []api.Lit, l api.Lit) bool {
	return slices.ContainsFunc(ls, func(m api.Lit) bool {
		return SameLit(l, m)
	})
}

// Parts returns the Atoms and Tuples of c, in the order in which variables are met; they are those of c, not copies.
func Parts(c api.Clause) [][]int {
	var out [][]int
	for _, l := range c.Lits {
		out = append(out, l.Atom)
	}
	out = append(out, c.Tuples...)
	for _, l := range c.Conds {
		out = append(out, l.Atom)
	}
	return out
}
