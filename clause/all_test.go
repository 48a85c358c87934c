package clause_test

import (
	"fmt"
	"math"
	"slices"
	"sync"
	"testing"

	"quaere/api"
	"quaere/clause"
	"quaere/lit"
	"quaere/term"
)

// expectMay is the chapter's words on what a valid clause is, on the layers before; sig is known to be valid.
func expectMay(sig []api.Sym, c api.Clause) bool {
	codes := 0
	for _, l := range slices.Concat(c.Lits, c.Conds) {
		if !lit.May(sig, l) {
			return false
		}
		codes += len(l.Atom)
	}
	for _, r := range c.Tuples {
		n, e := term.Row(sig, r)
		m, f := term.Row(sig, c.Tuples[0])
		if e != api.OK || f != api.OK || n != m {
			return false
		}
		codes += len(r)
	}
	return len(c.Lits) <= 5 && len(c.Tuples) <= 3 && len(c.Conds) <= 3 && codes <= 240
}

// firstOnes copies the literals that no earlier one is equal to.
func firstOnes(ls []api.Lit) []api.Lit {
	var out []api.Lit
	for i, l := range ls {
		if slices.IndexFunc(ls, func(m api.Lit) bool { return sameLit(l, m) }) == i {
			out = append(out, api.Lit{Neg: l.Neg, Atom: slices.Clone(l.Atom)})
		}
	}
	return out
}

// all gives the Atoms and Tuples of a clause in the order of P8.2.
func all(c api.Clause) [][]int {
	var out [][]int
	for _, l := range c.Lits {
		out = append(out, l.Atom)
	}
	out = append(out, c.Tuples...)
	for _, l := range c.Conds {
		out = append(out, l.Atom)
	}
	return out
}

// expectNormal is P8.2 word by word: it writes down the variables in the order in which they come, and gives each its place there.
func expectNormal(c api.Clause) api.Clause {
	out := api.Clause{Lits: firstOnes(c.Lits), Conds: firstOnes(c.Conds)}
	for i, r := range c.Tuples {
		if slices.IndexFunc(c.Tuples, func(s []int) bool { return slices.Equal(r, s) }) == i {
			out.Tuples = append(out.Tuples, slices.Clone(r))
		}
	}
	var order []int
	for _, code := range slices.Concat(all(out)...) {
		if code < 0 && !slices.Contains(order, code) {
			order = append(order, code)
		}
	}
	for _, codes := range all(out) {
		for i, code := range codes {
			if code < 0 {
				codes[i] = -1 - slices.Index(order, code)
			}
		}
	}
	return out
}

// expectTrivial is P8.3 word by word.
func expectTrivial(c api.Clause) bool {
	for i, l := range c.Lits {
		for j, m := range c.Lits {
			if i != j && l.Neg != m.Neg && slices.Equal(l.Atom, m.Atom) {
				return true
			}
		}
		half := (len(l.Atom) + 1) / 2
		if l.Atom[0] == eq && !l.Neg && slices.Equal(l.Atom[1:half], l.Atom[half:]) {
			return true
		}
	}
	return false
}

func expectWeight(t *testing.T, c api.Clause) int {
	t.Helper()
	sum := 0
	for _, l := range c.Lits {
		w, e := lit.Weight(symbols(), l)
		if e != api.OK {
			t.Fatalf("lit.Weight(%v): %d", l, e)
		}
		sum += w
	}
	return sum
}

func expectVars(c api.Clause) []int {
	var out []int
	for _, code := range slices.Concat(all(c)...) {
		if code < 0 {
			out = append(out, -1-code)
		}
	}
	slices.Sort(out)
	return slices.Compact(out)
}

// chance is a row of numbers by a fixed rule.
type chance uint32

func (c *chance) below(n int) int {
	*c = *c*1664525 + 1013904223
	return int(*c>>8) % n
}

// filled makes a term or an atom of a symbol, of at most so many levels and of so many variables.
func (c *chance) filled(code, levels, vars int) []int {
	out := []int{code}
	for range symbols()[code].Arity {
		out = append(out, c.term(levels, vars)...)
	}
	return out
}

func (c *chance) term(levels, vars int) []int {
	if levels <= 1 || c.below(4) == 0 {
		if vars > 0 && c.below(3) > 0 {
			return []int{x(c.below(vars))}
		}
		return []int{[]int{ann, bob, sk}[c.below(3)]}
	}
	return c.filled([]int{f, f, g, h}[c.below(4)], levels-1, vars)
}

func (c *chance) literal(levels, vars int) api.Lit {
	for {
		atom := c.filled([]int{eq, eq, likes, rains, tall, between}[c.below(6)], levels, vars)
		if len(atom) <= api.MaxTerm+1 {
			return api.Lit{Neg: c.below(2) == 1, Atom: atom}
		}
	}
}

// literals makes at most so many of them; some are copies of an earlier one or its opposite.
func (c *chance) literals(most, levels, vars int) []api.Lit {
	var out []api.Lit
	for range c.below(most + 1) {
		l := c.literal(levels, vars)
		if len(out) > 0 && c.below(4) == 0 {
			l = api.Lit{Neg: c.below(4) == 0, Atom: slices.Clone(out[c.below(len(out))].Atom)}
		}
		out = append(out, l)
	}
	return out
}

func (c *chance) clause(levels, vars int) api.Clause {
	out := api.Clause{Lits: c.literals(api.MaxLits, levels, vars), Conds: c.literals(api.MaxConds, levels, vars)}
	width := c.below(4)
	for range c.below(api.MaxTuples + 1) {
		var r []int
		for range width {
			r = append(r, c.term(levels, vars)...)
		}
		if len(out.Tuples) > 0 && c.below(4) == 0 {
			r = slices.Clone(out.Tuples[c.below(len(out.Tuples))])
		}
		out.Tuples = append(out.Tuples, r)
	}
	return out
}

func copied(c api.Clause) api.Clause {
	var out api.Clause
	for _, l := range c.Lits {
		out.Lits = append(out.Lits, api.Lit{Neg: l.Neg, Atom: slices.Clone(l.Atom)})
	}
	for _, r := range c.Tuples {
		out.Tuples = append(out.Tuples, slices.Clone(r))
	}
	for _, l := range c.Conds {
		out.Conds = append(out.Conds, api.Lit{Neg: l.Neg, Atom: slices.Clone(l.Atom)})
	}
	return out
}

// renamed gives every variable another number, no two the same one.
func (c *chance) renamed(d api.Clause) api.Clause {
	var to [api.MaxVar + 1]int
	for v := range to {
		w := c.below(v + 1)
		to[v], to[w] = to[w], v
	}
	out := copied(d)
	for _, codes := range all(out) {
		for i, code := range codes {
			if code < 0 {
				codes[i] = x(to[-1-code])
			}
		}
	}
	return out
}

// changed makes a clause that differs from d by little: by one code, by one Neg, by the order of two literals.
func (c *chance) changed(d api.Clause) api.Clause {
	out := copied(d)
	ls := [][]api.Lit{out.Lits, out.Conds}[c.below(2)]
	if len(ls) == 0 {
		return out
	}
	i, j := c.below(len(ls)), c.below(len(ls))
	switch c.below(3) {
	case 0:
		ls[i].Neg = !ls[i].Neg
	case 1:
		ls[i], ls[j] = ls[j], ls[i]
	case 2:
		at := c.below(len(ls[i].Atom))
		if ls[i].Atom[at] < 0 {
			ls[i].Atom[at] = x(c.below(3))
		}
	}
	return out
}

// grown adds parts to a clause, with which it may still be valid or not.
func (c *chance) grown(d api.Clause) api.Clause {
	out := copied(d)
	for range 1 + c.below(3) {
		switch c.below(3) {
		case 0:
			out.Lits = append(out.Lits, tower(2+c.below(api.MaxTerm)))
		case 1:
			out.Tuples = append(out.Tuples, c.term(3, 2))
		case 2:
			out.Conds = append(out.Conds, tower(2+c.below(api.MaxTerm)))
		}
	}
	return out
}

// asExpected holds all calls of one clause against the plain words.
func asExpected(t *testing.T, c api.Clause) {
	t.Helper()
	if got, e := clause.Normal(symbols(), c); !same(got, expectNormal(c)) || e != api.OK {
		t.Fatalf("P8.2: Normal(%v) = %v, %d; want %v", c, got, e, expectNormal(c))
	}
	if got, e := clause.Trivial(symbols(), c); got != expectTrivial(c) || e != api.OK {
		t.Fatalf("P8.3: Trivial(%v) = %t, %d", c, got, e)
	}
	if got, e := clause.Weight(symbols(), c); got != expectWeight(t, c) || e != api.OK {
		t.Fatalf("P8.1: Weight(%v) = %d, %d; want %d", c, got, e, expectWeight(t, c))
	}
	if got, e := clause.Vars(symbols(), c); !slices.Equal(got, expectVars(c)) || e != api.OK {
		t.Fatalf("P8.1: Vars(%v) = %v, %d; want %v", c, got, e, expectVars(c))
	}
}

func TestManyClauses(t *testing.T) {
	c := chance(3)
	var valid, trivial [2]int
	for range 20000 {
		d := c.renamed(c.clause(c.below(5), c.below(5)))
		if c.below(4) == 0 {
			d = c.grown(d)
		}
		may := clause.May(symbols(), d)
		if may != expectMay(symbols(), d) {
			t.Fatalf("P8.1: May(%v) = %t", d, may)
		}
		if !may {
			valid[1]++
			refused(t, "of many", 0, symbols(), d)
			continue
		}
		valid[0]++
		asExpected(t, d)
		if expectTrivial(d) {
			trivial[0]++
		} else {
			trivial[1]++
		}
	}
	if slices.Min(valid[:]) < 300 || slices.Min(trivial[:]) < 2000 {
		t.Errorf("too few of a kind: %v, %v", valid, trivial)
	}
}

// Clauses of all small sizes around MaxCodes, in every way to share the codes out.
func TestAroundMaxCodes(t *testing.T) {
	for n := 36; n <= api.MaxTerm+1; n++ {
		for k := 36; k <= api.MaxTerm; k++ {
			for m := 36; m <= api.MaxTerm+1; m++ {
				c := whole(lits(tower(n), tower(n), tower(m)), tuples(one(k, x(1))), conds(tower(m)))
				if got, want := clause.May(symbols(), c), 2*n+2*m+k <= api.MaxCodes; got != want {
					t.Fatalf("P8.1: May with atoms of %d and %d codes and a Tuple of %d = %t", n, m, k, got)
				}
			}
		}
	}
}

func TestManyVariants(t *testing.T) {
	c := chance(13)
	var seen [2]int
	for range 20000 {
		d := c.clause(1+c.below(3), 1+c.below(3))
		if !clause.May(symbols(), d) {
			continue
		}
		variantIs(t, "renamed", d, c.renamed(d), true)
		normal, e := clause.Normal(symbols(), d)
		variantIs(t, "with its Normal", d, normal, e == api.OK)
		near := c.renamed(c.changed(d))
		want := same(expectNormal(d), expectNormal(near))
		variantIs(t, "changed", d, near, want)
		if want {
			seen[0]++
		} else {
			seen[1]++
		}
		if t.Failed() {
			t.FailNow()
		}
	}
	if slices.Min(seen[:]) < 1000 {
		t.Errorf("too few of a kind: %v", seen)
	}
}

// Normal of a clause and of the clause with other names is one.
func TestNormalDoesNotSeeNames(t *testing.T) {
	c := chance(17)
	for range 5000 {
		d := c.clause(1+c.below(3), 4)
		if !clause.May(symbols(), d) {
			continue
		}
		n, e := clause.Normal(symbols(), d)
		m, f := clause.Normal(symbols(), c.renamed(d))
		k, g := clause.Normal(symbols(), n)
		if !same(n, m) || !same(n, k) || e != api.OK || f != api.OK || g != api.OK {
			t.Fatalf("P8.2: Normal(%v) = %v, renamed %v, of Normal %v", d, n, m, k)
		}
	}
}

// All pairs and triples of a few literals: every place at which two can be equal or opposite.
func TestAllSmallClauses(t *testing.T) {
	var few []api.Lit
	for _, atom := range [][]int{{rains}, {tall, x(0)}, {tall, x(1)}, {eq, x(0), x(1)}, {eq, x(1), x(1)}, {likes, x(2), x(2)}} {
		few = append(few, is(atom...), not(atom...))
	}
	for _, l := range few {
		asExpected(t, lits(l))
		for _, m := range few {
			asExpected(t, lits(l, m))
			asExpected(t, whole(lits(l), conds(m)))
			for _, n := range few {
				asExpected(t, lits(l, m, n))
				asExpected(t, whole(lits(l, m), conds(n)))
				asExpected(t, conds(l, m, n))
			}
		}
	}
}

// No call may panic, whatever the numbers: wrong symbols, codes and sizes together.
func TestWildArguments(t *testing.T) {
	c := chance(9)
	wild := []int{math.MinInt, math.MinInt + 1, -25, -24, -2, -1, 0, 1, 2, 3, 4, 5, 8, 9, 10, 11, 48, math.MaxInt - 1, math.MaxInt}
	pick := func() int { return wild[c.below(len(wild))] }
	codes := func() []int {
		var out []int
		for range c.below(4) {
			out = append(out, pick())
		}
		return out
	}
	var seen [2]int
	for range 30000 {
		sig := symbols()
		if c.below(2) == 0 {
			sig[c.below(len(sig))] = api.Sym{Name: "w", Kind: pick(), Arity: pick(), Weight: pick()}
		}
		d := c.clause(2, 3)
		switch c.below(5) {
		case 0:
			d.Lits = append(d.Lits, api.Lit{Neg: c.below(2) == 0, Atom: codes()})
		case 1:
			d.Conds = append(d.Conds, api.Lit{Atom: codes()})
		case 2:
			d.Tuples = append(d.Tuples, codes())
		}
		seen[agree(t, sig, d, c.clause(2, 3))]++
	}
	if slices.Min(seen[:]) < 2000 {
		t.Errorf("too few of a kind: %v", seen)
	}
}

// agree looks whether all calls take or refuse a clause alike, and answers 0 if they take it.
func agree(t *testing.T, sig []api.Sym, c, d api.Clause) int {
	t.Helper()
	n, eN := clause.Normal(sig, c)
	trivial, eT := clause.Trivial(sig, c)
	w, eW := clause.Weight(sig, c)
	vs, eV := clause.Vars(sig, c)
	itself, eI := clause.Variant(sig, c, c)
	variant, e := clause.Variant(sig, c, d)
	back, eB := clause.Variant(sig, d, c)
	may, other := clause.May(sig, c), clause.May(sig, d)
	alike := eN == eT && eN == eW && eN == eV && eN == eI && e == eB && variant == back && (eN == api.OK) == may && (e == api.OK) == (may && other)
	if alike && may && itself {
		return 0
	}
	if alike && !may && eN == api.ErrClauseForm && e == api.ErrClauseForm && isEmpty(n) && !trivial && w == 0 && len(vs) == 0 && !itself && !variant {
		return 1
	}
	t.Fatalf("R1, R2: %v, %v, %v: %t, %t; %v %d, %t %d, %d %d, %v %d, %t %d, %t %d, %t %d", sig, c, d, may, other, n, eN, trivial, eT, w, eW, vs, eV, itself, eI, variant, e, back, eB)
	return 1
}

// roomy copies a clause, with something in the spare capacity of each of its lists.
func roomy(c api.Clause) api.Clause {
	spare := func(r []int) []int {
		return append(slices.Clone(r), 99, -99, ann)[:len(r)]
	}
	literals := func(ls []api.Lit) []api.Lit {
		var out []api.Lit
		for _, l := range ls {
			out = append(out, api.Lit{Neg: l.Neg, Atom: spare(l.Atom)})
		}
		return append(out, is(rains), not(99))[:len(ls)]
	}
	out := api.Clause{Lits: literals(c.Lits), Conds: literals(c.Conds)}
	for _, r := range c.Tuples {
		out.Tuples = append(out.Tuples, spare(r))
	}
	out.Tuples = append(out.Tuples, row(ann), nil)[:len(c.Tuples)]
	return out
}

// everything writes down a clause with what is in the spare capacity of all its lists.
func everything(c api.Clause) string {
	out := fmt.Sprint(len(c.Lits), len(c.Tuples), len(c.Conds))
	for _, l := range slices.Concat(c.Lits[:cap(c.Lits)], c.Conds[:cap(c.Conds)]) {
		out += fmt.Sprint(l.Neg, len(l.Atom), l.Atom[:cap(l.Atom)])
	}
	for _, r := range c.Tuples[:cap(c.Tuples)] {
		out += fmt.Sprint(len(r), r[:cap(r)])
	}
	return out
}

// isHuge tells of clauses that take long to be written down.
func isHuge(c api.Clause) bool {
	long := func(r []int) bool { return len(r) > 100 }
	return len(all(c)) > 100 || slices.ContainsFunc(all(c), long)
}

func someClauses() []api.Clause {
	out := slices.Concat(rightClauses(), slices.DeleteFunc(wrongClauses(), isHuge))
	c := chance(21)
	for range 300 {
		out = append(out, c.renamed(c.clause(3, 3)))
	}
	return out
}

func callAll(sig []api.Sym, c, d api.Clause) {
	clause.May(sig, c)
	clause.Normal(sig, c)
	clause.Trivial(sig, c)
	clause.Variant(sig, c, d)
	clause.Variant(sig, d, c)
	clause.Weight(sig, c)
	clause.Vars(sig, c)
}

func TestArgumentsUnchanged(t *testing.T) {
	some := someClauses()
	for i := range some {
		c, d := roomy(some[i]), roomy(some[len(some)-1-i])
		sig := append(symbols(), api.Sym{Name: "tail", Kind: -7, Arity: -7, Weight: -7})
		beforeC, beforeD, beforeSig := everything(c), everything(d), slices.Clone(sig)
		for _, size := range []int{beyond, beyond + 1} {
			callAll(sig[:size], c, d)
			callAll(sig[:size], c, c)
		}
		if everything(c) != beforeC || everything(d) != beforeD || !slices.Equal(sig, beforeSig) {
			t.Fatalf("R4: arguments were changed: %v, %v, %v", c, d, sig)
		}
	}
}

// lists gives all lists of codes in a clause, with those in the spare capacity of its lists.
func lists(c api.Clause) [][]int {
	return all(api.Clause{Lits: c.Lits[:cap(c.Lits)], Tuples: c.Tuples[:cap(c.Tuples)], Conds: c.Conds[:cap(c.Conds)]})
}

// spoil writes over all that a clause has, up to the capacities, and looks at each list alone: no other one may change by it.
func spoil(t *testing.T, c api.Clause) {
	t.Helper()
	for i, r := range lists(c) {
		for k := range r[:cap(r)] {
			r[:cap(r)][k] = 1000 + i
		}
	}
	for i, r := range lists(c) {
		if slices.ContainsFunc(r[:cap(r)], func(code int) bool { return code != 1000+i }) {
			t.Fatalf("R4: two lists share memory: %v", c)
		}
	}
	for i := range c.Lits[:cap(c.Lits)] {
		c.Lits[:cap(c.Lits)][i] = is(-5)
	}
	for i := range c.Conds[:cap(c.Conds)] {
		c.Conds[:cap(c.Conds)][i] = not(-6)
	}
	for i := range c.Tuples[:cap(c.Tuples)] {
		c.Tuples[:cap(c.Tuples)][i] = row(-7)
	}
	if slices.ContainsFunc(c.Lits, func(l api.Lit) bool { return l.Neg }) {
		t.Fatalf("R4: Lits and Conds share memory: %v", c)
	}
}

// What is told hangs on no list that was handed in, and on no earlier result.
func TestResultsOfTheirOwn(t *testing.T) {
	for _, c := range someClauses() {
		given := roomy(c)
		before := everything(given)
		first, e := clause.Normal(symbols(), given)
		kept := copied(first)
		vs, eV := clause.Vars(symbols(), given)
		keptVs := slices.Clone(vs)
		second, _ := clause.Normal(symbols(), given)
		spoil(t, first)
		for i := range vs[:cap(vs)] {
			vs[:cap(vs)][i] = -5
		}
		if everything(given) != before || !same(second, kept) {
			t.Fatalf("R4: a result shares memory with an argument or with another result: %v", c)
		}
		third, e3 := clause.Normal(symbols(), given)
		again, eA := clause.Vars(symbols(), given)
		if !same(third, kept) || e3 != e || !slices.Equal(again, keptVs) || eA != eV {
			t.Fatalf("R5: Normal(%v) = %v, then %v; Vars = %v, then %v", c, kept, third, keptVs, again)
		}
	}
}

// One list that stands at several places of an argument stands at none of the result.
func TestSharedArgumentsApart(t *testing.T) {
	codes := []int{likes, x(3), x(2)}
	r := codes[1:]
	shared := api.Clause{Lits: []api.Lit{is(codes...), not(codes...)}, Tuples: [][]int{r, r}, Conds: []api.Lit{not(codes...), is(codes...)}}
	shared.Lits[0].Atom, shared.Lits[1].Atom, shared.Conds[0].Atom, shared.Conds[1].Atom = codes, codes, codes, codes
	want := whole(lits(is(likes, x(0), x(1)), not(likes, x(0), x(1))), tuples(row(x(0), x(1))), conds(not(likes, x(0), x(1)), is(likes, x(0), x(1))))
	becomes(t, "one list at several places", shared, want)
	n, _ := clause.Normal(symbols(), shared)
	spoil(t, n)
	if !slices.Equal(codes, []int{likes, x(3), x(2)}) {
		t.Errorf("R4: the argument was changed: %v", codes)
	}
	both := []api.Lit{is(tall, x(4))}
	n, _ = clause.Normal(symbols(), api.Clause{Lits: both, Conds: both})
	spoil(t, n)
	if !slices.Equal(both[0].Atom, []int{tall, x(4)}) {
		t.Errorf("R4: the argument was changed: %v", both)
	}
}

func TestSpareCapacityUnread(t *testing.T) {
	codes := []int{eq, x(5), x(5), ann}
	ls := []api.Lit{is(tall, x(3)), not(tall, x(3)), is(), is(), is(), is(), is()}
	rs := [][]int{{x(7)}, {x(7)}, {f}, nil}
	if clause.May(symbols(), lits(is(codes[:2]...))) || !clause.May(symbols(), lits(is(codes[:3]...))) || clause.May(symbols(), lits(is(codes...))) {
		t.Error("P8.1: codes behind an atom")
	}
	c := api.Clause{Lits: ls[:1], Tuples: rs[:2], Conds: ls[1:2]}
	becomes(t, "what is behind the lists", c, whole(lits(is(tall, x(0))), tuples(row(x(1))), conds(not(tall, x(0)))))
	trivialIs(t, "an opposite behind the list", c, false)
	varsAre(t, "what is behind the lists", c, 3, 7)
	weighs(t, "what is behind the lists", c, 3)
	refused(t, "a symbol of the spare capacity", 0, symbols()[:tall], c)
}

// Run with -race, this also tells of calls that write what others read.
func TestCallsAtOnce(t *testing.T) {
	sig, some := symbols(), slices.DeleteFunc(someClauses(), func(c api.Clause) bool { return !clause.May(symbols(), c) })
	var wants []api.Clause
	for _, c := range some {
		wants = append(wants, expectNormal(c))
	}
	var joined sync.WaitGroup
	for range 8 {
		joined.Add(1)
		go func() {
			defer joined.Done()
			for i, c := range some {
				callAll(sig, c, some[0])
				if got, e := clause.Normal(sig, c); !same(got, wants[i]) || e != api.OK {
					t.Errorf("R5: at once: Normal(%v) = %v, %d", c, got, e)
				}
			}
		}()
	}
	joined.Wait()
}
