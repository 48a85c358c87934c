// Package change tells what variables must become for one row to be changed to another one, and puts what they become for them: what bind, match and the layers above them do behind their checks.
package change

import (
	"slices"

	"quaere/api"
	"quaere/shape"
)

// Pieces has for each variable what it must become, a piece of the other row; nil if the variable has not been met.
type Pieces [api.MaxVar + 1][]int

// Find returns what the variables of a must become for a to be changed to b, and false if that can not be; sig is known to be valid, a and b to be rows.
// Equal symbols have as many arguments: so what remains of a and of b is a row at every step, and no term has to be looked at as a whole but those that variables become.
func Find(sig []api.Sym, a, b []int) (Pieces, bool) {
	var p Pieces
	for _, code := range a {
		if len(b) == 0 {
			return Pieces{}, false
		}
		n := 1
		if code < 0 {
			n = shape.FirstTerm(sig, b)
		}
		if !p.take(code, b[:n]) {
			return Pieces{}, false
		}
		b = b[n:]
	}
	if len(b) > 0 {
		return Pieces{}, false
	}
	return p, true
}

// Agrees tells whether no variable must become one thing by p and another one by q.
func (p *Pieces) Agrees(q *Pieces) bool {
	for v, piece := range p {
		if piece != nil && q[v] != nil && !slices.Equal(piece, q[v]) {
			return false
		}
	}
	return true
}

// Apply puts the terms of s for their variables in r, all at the same time, in new memory, and answers false if that has more codes than a row may have; s is known to be valid, r to be a row but for its length.
func Apply(s []api.Bind, r []int) ([]int, bool) {
	var terms [api.MaxVar + 1][]int
	for _, b := range s {
		terms[b.Var] = b.Term
	}
	var out []int
	for _, code := range r {
		if code < 0 && terms[-1-code] != nil {
			out = append(out, terms[-1-code]...)
		} else {
			out = append(out, code)
		}
		if len(out) > api.MaxTerm {
			return nil, false
		}
	}
	return out, true
}

// take answers whether a code can become piece, and keeps that for a variable.
func (p *Pieces) take(code int, piece []int) bool {
	if code >= 0 {
		return piece[0] == code
	}
	v := -1 - code
	if p[v] == nil {
		p[v] = piece
	}
	return slices.Equal(p[v], piece)
}
