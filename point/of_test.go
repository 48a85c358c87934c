package point_test

import (
	"fmt"
	"math"
	"slices"
	"testing"

	"quaere/api"
	"quaere/clause"
	"quaere/lit"
	"quaere/point"
)

// The codes of symbols().
const (
	eq = iota
	likes
	rains
	tall
	ann
	bob
	f
	h
	sk
	between
	beyond // no symbol has this code
)

func symbols() []api.Sym {
	return []api.Sym{
		eq:      {Name: "=", Kind: api.KindPred, Arity: 2, Weight: 1},
		likes:   {Name: "likes", Kind: api.KindPred, Arity: 2, Weight: 4},
		rains:   {Name: "rains", Kind: api.KindPred, Arity: 0, Weight: 3},
		tall:    {Name: "tall", Kind: api.KindPred, Arity: 1, Weight: 2},
		ann:     {Name: "ann", Kind: api.KindFun, Arity: 0, Weight: 1},
		bob:     {Name: "bob", Kind: api.KindFun, Arity: 0, Weight: 6},
		f:       {Name: "f", Kind: api.KindFun, Arity: 1, Weight: 1},
		h:       {Name: "h", Kind: api.KindFun, Arity: api.MaxArity, Weight: api.MaxWeight},
		sk:      {Name: "sk", Kind: api.KindSkolem, Arity: 0, Weight: api.MaxWeight},
		between: {Name: "between", Kind: api.KindPred, Arity: api.MaxArity, Weight: api.MaxWeight},
	}
}

// x is the code of the variable v.
func x(v int) int {
	return -1 - v
}

func is(atom ...int) api.Lit {
	return api.Lit{Atom: atom}
}

func not(atom ...int) api.Lit {
	return api.Lit{Neg: true, Atom: atom}
}

func lits(ls ...api.Lit) api.Clause {
	return api.Clause{Lits: ls}
}

// beside adds Tuples and Conds to a clause; they are heavier than most Lits.
func beside(c api.Clause) api.Clause {
	c.Tuples = [][]int{{sk, bob}, {sk, x(0)}}
	c.Conds = []api.Lit{is(between, sk, sk, sk), not(between, sk, sk, sk), not(tall, sk)}
	return c
}

// tower is an Atom of n codes, of Weight n + 1.
func tower(n int) []int {
	return slices.Concat([]int{tall}, slices.Repeat([]int{f}, n-2), []int{x(0)})
}

// heaviest is an Atom with as many codes as may be, each of the greatest Weight.
func heaviest() []int {
	return slices.Concat([]int{between}, slices.Repeat([]int{h}, 15), slices.Repeat([]int{sk}, 33))
}

// P9.3.

func pointIs(t *testing.T, what string, c api.Clause, want api.Point) {
	t.Helper()
	if got, e := point.Of(symbols(), c); got != want || e != api.OK {
		t.Errorf("P9.3 %s: Of(%v) = %v, %d; want %v", what, c, got, e, want)
	}
}

// ofIs looks at a clause alone and beside Tuples and Conds, which do not count.
func ofIs(t *testing.T, what string, c api.Clause, want api.Point) {
	t.Helper()
	pointIs(t, what, c, want)
	pointIs(t, what+", beside Tuples and Conds", beside(c), want)
}

func TestOf(t *testing.T) {
	a, b := is(likes, x(0), bob), not(tall, f, bob)
	ofIs(t, "no Lit", api.Clause{}, at(0, 0))
	ofIs(t, "an empty list of Lits", lits([]api.Lit{}...), at(0, 0))
	ofIs(t, "one Lit", lits(a), at(11, 0))
	ofIs(t, "one Lit with Neg", lits(b), at(0, 9))
	ofIs(t, "one of each", lits(a, b), at(11, 9))
	ofIs(t, "one of each, with Neg first", lits(b, a), at(11, 9))
	ofIs(t, "a Lit and its opposite", lits(is(rains), not(rains)), at(3, 3))
	ofIs(t, "without arguments", lits(not(rains)), at(0, 3))
	ofIs(t, "an equation", lits(is(eq, x(0), x(api.MaxVar))), at(3, 0))
	ofIs(t, "an equation with Neg", lits(not(eq, f, ann, sk)), at(0, 23))
	ofIs(t, "equal Lits do not add up", lits(a, a, a), at(11, 0))
	ofIs(t, "equal Lits with Neg do not add up", lits(b, a, b), at(11, 9))
	ofIs(t, "equal Weights of unlike Lits", lits(is(rains), is(tall, x(0)), not(eq, ann, ann), not(tall, ann)), at(3, 3))
	ofIs(t, "the heavier one has fewer codes", lits(is(tall, sk), is(likes, f, f, x(0), x(1)), not(tall, f, f, f, ann), not(tall, bob)), at(22, 8))
}

// The greatest Weight may stand first, last, in the middle, twice.
func TestOfTakesTheGreatest(t *testing.T) {
	light, middle, heavy := []int{rains}, []int{tall, bob}, []int{likes, bob, sk}
	ofIs(t, "first", lits(is(heavy...), is(middle...), is(light...)), at(30, 0))
	ofIs(t, "last", lits(is(light...), is(middle...), is(heavy...)), at(30, 0))
	ofIs(t, "in the middle", lits(is(middle...), is(heavy...), is(light...)), at(30, 0))
	ofIs(t, "twice", lits(is(heavy...), is(light...), is(heavy...)), at(30, 0))
	ofIs(t, "first, with Neg", lits(not(heavy...), not(middle...), not(light...)), at(0, 30))
	ofIs(t, "last, with Neg", lits(not(light...), not(middle...), not(heavy...)), at(0, 30))
	ofIs(t, "in the middle, with Neg", lits(not(middle...), not(heavy...), not(light...)), at(0, 30))
	ofIs(t, "twice, with Neg", lits(not(heavy...), not(light...), not(heavy...)), at(0, 30))
	ofIs(t, "each for itself", lits(is(light...), not(heavy...), is(middle...), not(light...)), at(8, 30))
	ofIs(t, "each for itself, the other way round", lits(not(light...), is(heavy...), not(middle...), is(light...)), at(30, 8))
	ofIs(t, "five", lits(is(light...), not(light...), is(middle...), not(middle...), is(heavy...)), at(30, 8))
}

func TestOfTuplesAndCondsAlone(t *testing.T) {
	pointIs(t, "Tuples alone", api.Clause{Tuples: [][]int{{sk, ann}, {x(0), bob}}}, at(0, 0))
	pointIs(t, "empty Tuples", api.Clause{Tuples: [][]int{nil, {}}}, at(0, 0))
	pointIs(t, "Conds alone", api.Clause{Conds: []api.Lit{is(tall, sk), not(rains)}}, at(0, 0))
	pointIs(t, "a Cond without Neg", api.Clause{Lits: []api.Lit{not(rains)}, Conds: []api.Lit{is(tall, sk)}}, at(0, 3))
	pointIs(t, "a Cond with Neg", api.Clause{Lits: []api.Lit{is(rains)}, Conds: []api.Lit{not(tall, sk)}}, at(3, 0))
}

func TestOfAtTheLimits(t *testing.T) {
	full := tower(api.MaxTerm + 1)
	pointIs(t, "as many Lits as may be", lits(is(rains), is(rains), not(rains), is(rains), is(tall, bob)), at(8, 3))
	pointIs(t, "as many codes as may be", lits(is(full...), not(full...), is(full...), not(full...), not(tower(44)...)), at(50, 50))
	pointIs(t, "as heavy as may be", lits(is(heaviest()...)), at(49*api.MaxWeight, 0))
	pointIs(t, "as heavy as may be, with Neg", lits(not(heaviest()...)), at(0, 49*api.MaxWeight))
	pointIs(t, "as heavy as may be, both", lits(not(tower(44)...), is(heaviest()...), not(heaviest()...), is(heaviest()...), not(heaviest()...)), at(980, 980))
	alone := symbols()[:1]
	if got, e := point.Of(alone, lits(not(eq, x(0), x(1)))); got != at(0, 3) || e != api.OK {
		t.Errorf("P9.3: with equality alone: %v, %d", got, e)
	}
	if got, e := point.Of(alone, api.Clause{}); got != at(0, 0) || e != api.OK {
		t.Errorf("P9.3: with equality alone, no Lit: %v, %d", got, e)
	}
}

// wrongClauses are not valid, by one thing each.
func wrongClauses() []api.Clause {
	r, full := is(rains), is(tower(api.MaxTerm+1)...)
	out := []api.Clause{
		lits(r, r, r, r, r, r),
		{Tuples: [][]int{{ann}, {ann}, {ann}, {ann}}},
		{Conds: []api.Lit{r, r, r, r}},
		lits(slices.Repeat([]api.Lit{r}, 1000000)...), {Tuples: slices.Repeat([][]int{nil}, 1000000)}, {Conds: slices.Repeat([]api.Lit{r}, 1000000)},
		lits(full, full, full, full, is(tower(45)...)),
		{Lits: []api.Lit{full, full}, Tuples: [][]int{slices.Repeat([]int{ann}, 45)}, Conds: []api.Lit{full, full}},
		{Tuples: [][]int{{ann}, {ann, bob}}}, {Tuples: [][]int{{}, {ann}}}, {Lits: []api.Lit{r}, Tuples: [][]int{{ann}, {f, ann}, {}}},
		{Tuples: [][]int{{f}}}, {Tuples: [][]int{{ann}, {beyond}}}, {Tuples: [][]int{{rains}}}, {Tuples: [][]int{{x(api.MaxVar + 1)}}},
		{Tuples: [][]int{slices.Repeat([]int{ann}, api.MaxTerm+1)}}, {Lits: []api.Lit{r}, Tuples: [][]int{{math.MinInt}}},
	}
	for _, atom := range [][]int{
		nil, {}, {x(0)}, {ann}, {eq}, {eq, ann}, {eq, ann, ann, ann}, {tall, f}, {rains, ann}, {tall, rains}, {tall, x(api.MaxVar + 1)},
		{beyond}, {tall, beyond}, {math.MinInt}, {math.MaxInt}, {tall, math.MinInt}, {tall, math.MaxInt}, tower(api.MaxTerm + 2), slices.Repeat([]int{f}, 1000000),
	} {
		for _, wrong := range []api.Lit{is(atom...), not(atom...)} {
			out = append(out, lits(wrong), lits(wrong, r), lits(r, wrong), lits(r, r, wrong), lits(not(rains), r, r, r, wrong))
			out = append(out, api.Clause{Conds: []api.Lit{wrong}}, api.Clause{Lits: []api.Lit{r}, Conds: []api.Lit{r, wrong}})
		}
	}
	return out
}

// wrongSignatures are not valid, though all codes below beyond are symbols in most of them.
func wrongSignatures() [][]api.Sym {
	out := [][]api.Sym{nil, {}, symbols()[1:], append(symbols(), symbols()[ann]), slices.Repeat(symbols(), 3), slices.Repeat(symbols(), 1000)}
	for _, s := range []api.Sym{
		{Name: "", Weight: 1}, {Name: "X", Weight: 1}, {Name: "abcdefghi", Weight: 1}, {Name: "z", Kind: 3, Weight: 1}, {Name: "z", Kind: -1, Weight: 1},
		{Name: "z", Arity: api.MaxArity + 1, Weight: 1}, {Name: "z", Arity: -1, Weight: 1}, {Name: "z"}, {Name: "z", Weight: api.MaxWeight + 1}, {Name: "z", Weight: math.MaxInt},
	} {
		out = append(out, append(symbols(), s))
	}
	weight := symbols()
	weight[eq].Weight = 2
	return append(out, weight)
}

func ofRefused(t *testing.T, what string, i int, sig []api.Sym, c api.Clause) {
	t.Helper()
	if got, e := point.Of(sig, c); got != at(0, 0) || e != api.ErrPointForm {
		t.Errorf("P9.3, R2: %s %d: Of = %v, %d", what, i, got, e)
	}
}

func TestOfRefusesWrongClauses(t *testing.T) {
	for i, c := range wrongClauses() {
		ofRefused(t, "wrong clause", i, symbols(), c)
	}
}

func TestOfRefusesWrongSignatures(t *testing.T) {
	for i, sig := range wrongSignatures() {
		for _, c := range []api.Clause{{}, lits(is(eq, x(0), x(1))), lits(not(rains), is(tall, ann)), beside(api.Clause{}), lits(is(beyond)), lits(slices.Repeat([]api.Lit{is(rains)}, api.MaxLits+1)...)} {
			ofRefused(t, "wrong signature", i, sig, c)
		}
	}
}

// expectOf is P9.3 word by word, on layer 7; c is known to be valid.
func expectOf(c api.Clause) api.Point {
	weights := map[bool][]int{false: {0}, true: {0}}
	for _, l := range c.Lits {
		w, _ := lit.Weight(symbols(), l)
		weights[l.Neg] = append(weights[l.Neg], w)
	}
	return at(slices.Max(weights[false]), slices.Max(weights[true]))
}

func (c *chance) term(levels int) []int {
	if levels <= 1 || c.below(4) == 0 {
		return []int{[]int{ann, bob, sk, x(c.below(4)), x(c.below(4))}[c.below(5)]}
	}
	return c.filled([]int{f, f, h}[c.below(3)], levels-1)
}

// filled makes a term or an atom of a symbol, of at most so many levels.
func (c *chance) filled(code, levels int) []int {
	out := []int{code}
	for range symbols()[code].Arity {
		out = append(out, c.term(levels)...)
	}
	return out
}

func (c *chance) literals(most, levels int) []api.Lit {
	var out []api.Lit
	for range c.below(most + 1) {
		atom := c.filled([]int{eq, likes, rains, tall, between}[c.below(5)], levels)
		out = append(out, api.Lit{Neg: c.below(2) == 1, Atom: atom})
	}
	return out
}

// clause makes a clause that is mostly valid, and sometimes has too many codes.
func (c *chance) clause(levels int) api.Clause {
	out := api.Clause{Lits: c.literals(api.MaxLits, levels), Conds: c.literals(api.MaxConds, levels)}
	width := c.below(3)
	for range c.below(api.MaxTuples + 1) {
		var r []int
		for range width {
			r = append(r, c.term(levels)...)
		}
		out.Tuples = append(out.Tuples, r)
	}
	return out
}

// someClauses are valid, of all sizes.
func someClauses() []api.Clause {
	c := chance(21)
	out := []api.Clause{{}, lits(is(rains)), lits(not(rains), is(tall, bob)), beside(lits(is(heaviest()...)))}
	for len(out) < 500 {
		if d := c.clause(1 + c.below(4)); clause.May(symbols(), d) {
			out = append(out, d)
		}
	}
	return out
}

func TestOfManyClauses(t *testing.T) {
	c := chance(5)
	var valid [2]int
	for range 20000 {
		d := c.clause(1 + c.below(5))
		if !clause.May(symbols(), d) {
			valid[1]++
			ofRefused(t, "of many", 0, symbols(), d)
			continue
		}
		valid[0]++
		pointIs(t, "of many", d, expectOf(d))
	}
	if slices.Min(valid[:]) < 300 {
		t.Errorf("too few of a kind: %v", valid)
	}
}

// The order of Lits does not count, and with one Lit more no part becomes less.
func TestOfTurnedAndGrown(t *testing.T) {
	c := chance(13)
	for _, d := range someClauses() {
		whole := expectOf(d)
		turned := api.Clause{Lits: slices.Clone(d.Lits)}
		slices.Reverse(turned.Lits)
		pointIs(t, "turned", turned, whole)
		if len(d.Lits) == 0 {
			continue
		}
		k := c.below(len(d.Lits))
		fewer, e := point.Of(symbols(), lits(slices.Concat(d.Lits[:k], d.Lits[k+1:])...))
		if under, f := point.Under(fewer, whole); !under || e != api.OK || f != api.OK {
			t.Errorf("P9.3: Of(%v) = %v, without Lit %d %v", d, whole, k, fewer)
		}
	}
}

// No call may panic, whatever the numbers: wrong symbols and codes together.
func TestOfWildArguments(t *testing.T) {
	c := chance(9)
	wild := []int{math.MinInt, math.MinInt + 1, -25, -24, -2, -1, 0, 1, 2, 3, 4, 8, 9, 10, 20, 48, math.MaxInt - 1, math.MaxInt}
	pick := func() int { return wild[c.below(len(wild))] }
	var seen [2]int
	for range 30000 {
		sig := symbols()
		if c.below(2) == 0 {
			sig[c.below(len(sig))] = api.Sym{Name: "w", Kind: pick(), Arity: pick(), Weight: pick()}
		}
		d := c.clause(2)
		if c.below(3) == 0 {
			d.Lits = append(d.Lits, api.Lit{Neg: c.below(2) == 0, Atom: []int{pick(), pick(), pick()}[:c.below(4)]})
		}
		got, e := point.Of(sig, d)
		switch may := clause.May(sig, d); {
		case may && e == api.OK && point.May(got):
			seen[0]++
		case !may && e == api.ErrPointForm && got == at(0, 0):
			seen[1]++
		default:
			t.Fatalf("R1, R2: Of(%v, %v) = %v, %d", sig, d, got, e)
		}
	}
	if slices.Min(seen[:]) < 2000 {
		t.Errorf("too few of a kind: %v", seen)
	}
}

// roomy copies a clause, with something in the spare capacity of each of its lists.
func roomy(c api.Clause) api.Clause {
	spare := func(r []int) []int {
		return append(slices.Clone(r), 99, -99, ann)[:len(r)]
	}
	literals := func(ls []api.Lit) []api.Lit {
		var out []api.Lit
		for _, l := range ls {
			out = append(out, api.Lit{Neg: l.Neg, Atom: spare(l.Atom)})
		}
		return append(out, is(heaviest()...), not(heaviest()...), is(99))[:len(ls)]
	}
	out := api.Clause{Lits: literals(c.Lits), Conds: literals(c.Conds)}
	for _, r := range c.Tuples {
		out.Tuples = append(out.Tuples, spare(r))
	}
	out.Tuples = append(out.Tuples, []int{ann}, nil)[:len(c.Tuples)]
	return out
}

// everything writes down a clause with what is in the spare capacity of all its lists.
func everything(c api.Clause) string {
	out := fmt.Sprint(len(c.Lits), len(c.Tuples), len(c.Conds))
	for _, l := range slices.Concat(c.Lits[:cap(c.Lits)], c.Conds[:cap(c.Conds)]) {
		out += fmt.Sprint(l.Neg, len(l.Atom), l.Atom[:cap(l.Atom)])
	}
	for _, r := range c.Tuples[:cap(c.Tuples)] {
		out += fmt.Sprint(len(r), r[:cap(r)])
	}
	return out
}

// Of neither changes its arguments nor sees what is in their spare capacity.
func TestOfLeavesArguments(t *testing.T) {
	small := slices.DeleteFunc(wrongClauses(), func(c api.Clause) bool {
		return len(c.Lits)+len(c.Tuples)+len(c.Conds) > 100 || slices.ContainsFunc(slices.Concat(c.Lits, c.Conds), func(l api.Lit) bool { return len(l.Atom) > 100 })
	})
	for _, c := range slices.Concat(someClauses(), small) {
		given := roomy(c)
		sig := append(symbols(), api.Sym{Name: "tail", Kind: -7, Arity: -7, Weight: -7})
		before, sigBefore := everything(given), slices.Clone(sig)
		got, e := point.Of(sig[:beyond], given)
		again, f := point.Of(sig[:beyond], given)
		want, g := point.Of(symbols(), c)
		if got != want || e != g || again != want || f != g {
			t.Fatalf("R4, R5: Of(%v) = %v, %d, then %v, %d; with spare capacity %v, %d", c, want, g, again, f, got, e)
		}
		ofRefused(t, "a symbol of the spare capacity", 0, sig, given)
		if everything(given) != before || !slices.Equal(sig, sigBefore) {
			t.Fatalf("R4: arguments were changed: %v, %v", given, sig)
		}
	}
}
