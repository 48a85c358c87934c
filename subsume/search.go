package subsume

import (
	"math/bits"

	"quaere/api"
	"quaere/change"
)

// set has a bit for each of some pairs. The limits of clauses allow 5 * 5 + 3 * 3 + 3 * 3 pairs, fewer than there are bits.
type set uint64

// pair stands for a part of c and a part of d that it can be changed to, as far as it alone goes.
type pair struct {
	index  int // of the part of d
	pieces change.Pieces
}

// search looks for one pair for each part of c, such that no two of them want a variable to become different things.
type search struct {
	pairs  []pair
	of     []set // for each part of c, in the order of Places: its pairs, ascending by index
	fits   []set // for each pair: those behind it that agree with it
	failed []set // for each part of c: pairs from which nothing could be chosen for it and for those after it
	places []int
}

// pairs returns a search over all pairs of c and d, Lits with Lits, Tuples with Tuples and Conds with Conds.
func pairs(sig []api.Sym, c, d api.Clause) *search {
	s := &search{}
	s.addLits(sig, c.Lits, d.Lits)
	for _, r := range c.Tuples {
		s.addPart()
		for i, t := range d.Tuples {
			s.addPair(sig, r, i, t)
		}
	}
	s.addLits(sig, c.Conds, d.Conds)
	return s
}

func (s *search) addLits(sig []api.Sym, ls, ms []api.Lit) {
	for _, l := range ls {
		s.addPart()
		for i, m := range ms {
			if l.Neg == m.Neg && l.Atom[0] == m.Atom[0] {
				s.addPair(sig, l.Atom[1:], i, m.Atom[1:])
			}
		}
	}
}

// addPart begins with the next part of c.
func (s *search) addPart() {
	s.of = append(s.of, 0)
}

// addPair adds the last part of c, whose codes are a, with the i-th one of d, whose codes are b, if the one can be changed to the other.
func (s *search) addPair(sig []api.Sym, a []int, i int, b []int) {
	pieces, ok := change.Find(sig, a, b)
	if ok {
		s.of[len(s.of)-1] |= 1 << len(s.pairs)
		s.pairs = append(s.pairs, pair{index: i, pieces: pieces})
	}
}

// find answers whether there is a choice of pairs, and writes the least one into places.
func (s *search) find() bool {
	all := set(1)<<len(s.pairs) - 1
	if !s.isOpen(0, all) {
		return false
	}
	s.fit()
	s.failed = make([]set, len(s.of))
	s.places = make([]int, len(s.of))
	return s.choose(0, all)
}

// isOpen tells whether each part from the k-th on has one of the pairs in live.
func (s *search) isOpen(k int, live set) bool {
	for _, own := range s.of[k:] {
		if live&own == 0 {
			return false
		}
	}
	return true
}

// fit finds out which pairs agree. If each two of those that are chosen agree, all of them do: so they are never looked at again.
func (s *search) fit() {
	s.fits = make([]set, len(s.pairs))
	for i := range s.pairs {
		for j := range i {
			if s.pairs[i].pieces.Agrees(&s.pairs[j].pieces) {
				s.fits[j] |= 1 << i
			}
		}
	}
}

// choose picks one pair of live for each part from the k-th on, the first ones that can be; live has pairs of these parts only, at least one of each.
func (s *search) choose(k int, live set) bool {
	if k == len(s.of) {
		return true
	}
	// What failed with more to choose from fails again. Without this, parts that have nothing to do with a failure behind them would be tried in all ways.
	if live&^s.failed[k] == 0 {
		return false
	}
	for own := live & s.of[k]; own != 0; own &= own - 1 {
		i := bits.TrailingZeros64(uint64(own))
		rest := live & s.fits[i] &^ s.of[k]
		if s.isOpen(k+1, rest) && s.choose(k+1, rest) {
			s.places[k] = s.pairs[i].index
			return true
		}
	}
	s.failed[k] = live
	return false
}
