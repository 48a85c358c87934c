// Package infer puts clauses together and keeps what comes of it: what resolve and the layers like it do behind their checks. Signatures and clauses are known to be valid, unless a call says otherwise.
package infer

import (
	"slices"

	"quaere/api"
	"quaere/change"
	"quaere/clause"
	"quaere/shape"
)

// Apart returns d with the numbers of its variables increased by one more than the greatest in c, and false if one of them would be above MaxVar.
func Apart(c, d api.Clause) (api.Clause, bool) {
	by := bound(c)
	if by+bound(d) > api.MaxVar+1 {
		return api.Clause{}, false
	}
	return each(d, func(r []int) ([]int, bool) {
		return shifted(r, by), true
	})
}

// Without returns the parts of c but Lit i; they are those of c, not copies.
func Without(c api.Clause, i int) api.Clause {
	c.Lits = slices.Concat(c.Lits[:i], c.Lits[i+1:])
	return c
}

// Join returns the Lits, the Tuples and the Conds of c, each followed by those of d; they are those of c and d, not copies. The result need not be valid.
func Join(c, d api.Clause) api.Clause {
	return api.Clause{
		Lits:   slices.Concat(c.Lits, d.Lits),
		Tuples: slices.Concat(c.Tuples, d.Tuples),
		Conds:  slices.Concat(c.Conds, d.Conds),
	}
}

// Apply returns Normal of c with s applied, in new memory, and false if that is not a valid clause; c may be too long to be valid.
func Apply(sig []api.Sym, s []api.Bind, c api.Clause) (api.Clause, bool) {
	c, ok := each(c, func(r []int) ([]int, bool) {
		return change.Apply(s, r)
	})
	if !ok {
		return api.Clause{}, false
	}
	c, e := clause.Normal(sig, c)
	return c, e == api.OK
}

// bound returns one more than the greatest number of a variable in c, 0 if c has no variables.
func bound(c api.Clause) int {
	least := 0
	for _, codes := range shape.Parts(c) {
		for _, code := range codes {
			least = min(least, code)
		}
	}
	// The code of a variable is -1 minus its number.
	return -least
}

func shifted(r []int, by int) []int {
	var out []int
	for _, code := range r {
		if code < 0 {
			code -= by
		}
		out = append(out, code)
	}
	return out
}

// each returns c with what to makes of each Tuple and of each Atom's arguments, and false if to answers false for one of them.
func each(c api.Clause, to func([]int) ([]int, bool)) (api.Clause, bool) {
	var out api.Clause
	var ok bool
	if out.Lits, ok = eachLit(c.Lits, to); !ok {
		return api.Clause{}, false
	}
	for _, r := range c.Tuples {
		r, ok = to(r)
		if !ok {
			return api.Clause{}, false
		}
		out.Tuples = append(out.Tuples, r)
	}
	if out.Conds, ok = eachLit(c.Conds, to); !ok {
		return api.Clause{}, false
	}
	return out, true
}

func eachLit(ls []api.Lit, to func([]int) ([]int, bool)) ([]api.Lit, bool) {
	var out []api.Lit
	for _, l := range ls {
		// A row's bound is for the arguments alone, without the predicate.
		args, ok := to(l.Atom[1:])
		if !ok {
			return nil, false
		}
		out = append(out, api.Lit{Neg: l.Neg, Atom: append([]int{l.Atom[0]}, args...)})
	}
	return out, true
}
