// Package world has small structures, in which clauses hold or not: what the tests of several layers ask whether a clause follows from others. The layers themselves do not need it.
package world

import (
	"iter"

	"quaere/api"
	"quaere/shape"
)

// World is a structure. Its elements are the numbers below size.
type World struct {
	sig    []api.Sym
	size   int
	tables [][]int // for each code what the symbol yields for each list of arguments; a predicate yields 0 or 1
	asked  []int   // the relation that is asked for, as a predicate's table
}

// values is what the variables stand for.
type values [api.MaxVar + 1]int

// Make returns a structure of so many elements, in which what is asked for has width arguments. Each thing that is to be chosen is one of n numbers, which pick tells.
func Make(sig []api.Sym, size, width int, pick func(n int) int) World {
	w := World{sig: sig, size: size}
	for code, s := range sig {
		if code == 0 {
			w.tables = append(w.tables, equality(size))
			continue
		}
		kinds := size
		if s.Kind == api.KindPred {
			kinds = 2
		}
		w.tables = append(w.tables, table(size, s.Arity, kinds, pick))
	}
	w.asked = table(size, width, 2, pick)
	return w
}

// All goes through all structures of so many elements.
func All(sig []api.Sym, size, width int) iter.Seq[World] {
	return func(yield func(World) bool) {
		var chosen, of []int
		for {
			at := 0
			w := Make(sig, size, width, func(n int) int {
				if at == len(chosen) {
					chosen, of = append(chosen, 0), append(of, n)
				}
				at++
				return chosen[at-1]
			})
			if !yield(w) || !next(chosen, of) {
				return
			}
		}
	}
}

// Holds tells whether c holds in w: for all values of its variables, one of its Conds does not hold, one of its Lits holds, or what is asked for holds for one of its Tuples.
func (w *World) Holds(c api.Clause) bool {
	var vars, of []int
	var met values
	for _, codes := range shape.Parts(c) {
		for _, code := range codes {
			if code < 0 && met[-1-code] == 0 {
				met[-1-code] = 1
				vars, of = append(vars, -1-code), append(of, w.size)
			}
		}
	}
	chosen := make([]int, len(vars))
	for {
		var v values
		for i, n := range vars {
			v[n] = chosen[i]
		}
		if !w.holds(c, v) {
			return false
		}
		if !next(chosen, of) {
			return true
		}
	}
}

// holds tells whether c holds for these values.
func (w *World) holds(c api.Clause, v values) bool {
	for _, l := range c.Conds {
		if !w.is(l, v) {
			return true
		}
	}
	for _, l := range c.Lits {
		if w.is(l, v) {
			return true
		}
	}
	for _, r := range c.Tuples {
		at := 0
		for len(r) > 0 {
			var n int
			n, r = w.read(r, v)
			at = at*w.size + n
		}
		if w.asked[at] == 1 {
			return true
		}
	}
	return false
}

func (w *World) is(l api.Lit, v values) bool {
	n, _ := w.read(l.Atom, v)
	return (n == 1) != l.Neg
}

// read returns the element that the term at the front of r stands for, or, for an atom, 1 if it holds and 0 if not; and what is behind it.
func (w *World) read(r []int, v values) (int, []int) {
	code := r[0]
	r = r[1:]
	if code < 0 {
		return v[-1-code], r
	}
	at := 0
	for range w.sig[code].Arity {
		var n int
		n, r = w.read(r, v)
		at = at*w.size + n
	}
	return w.tables[code][at], r
}

// table chooses one of so many kinds of result for each list of arguments.
func table(size, arity, kinds int, pick func(n int) int) []int {
	length := 1
	for range arity {
		length *= size
	}
	var out []int
	for range length {
		out = append(out, pick(kinds))
	}
	return out
}

func equality(size int) []int {
	out := make([]int, size*size)
	for n := range size {
		out[n*size+n] = 1
	}
	return out
}

// next counts up, the last digit first, and answers false behind the greatest number; of tells how many values each digit has.
func next(digits, of []int) bool {
	for i := len(digits) - 1; i >= 0; i-- {
		digits[i]++
		if digits[i] < of[i] {
			return true
		}
		digits[i] = 0
	}
	return false
}
