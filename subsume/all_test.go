package subsume_test

import (
	"fmt"
	"math"
	"slices"
	"sync"
	"testing"
	"time"

	"quaere/api"
	"quaere/clause"
	"quaere/point"
	"quaere/subsume"
)

// tree is an atom, a term or a Tuple with the terms that it holds; Tuples have the code tuple.
type tree struct {
	neg  bool
	code int
	args []tree
}

const tuple = 1000

// grow reads the term or the atom that r begins with, and what is behind it.
func grow(r []int) (tree, []int) {
	out := tree{code: r[0]}
	rest := r[1:]
	if out.code >= 0 {
		for range symbols()[out.code].Arity {
			var arg tree
			arg, rest = grow(rest)
			out.args = append(out.args, arg)
		}
	}
	return out, rest
}

func equal(m, n tree) bool {
	return m.neg == n.neg && m.code == n.code && slices.EqualFunc(m.args, n.args, equal)
}

func ofLits(ls []api.Lit) []tree {
	var out []tree
	for _, l := range ls {
		n, _ := grow(l.Atom)
		n.neg = l.Neg
		out = append(out, n)
	}
	return out
}

func ofTuples(rs [][]int) []tree {
	var out []tree
	for _, r := range rs {
		n := tree{code: tuple}
		for len(r) > 0 {
			var arg tree
			arg, r = grow(r)
			n.args = append(n.args, arg)
		}
		out = append(out, n)
	}
	return out
}

// known is what the variables of the first clause become, by their codes.
type known map[int]tree

// becomes tells by plain recursion whether m can become n.
func (k known) becomes(m, n tree) bool {
	if m.code >= 0 {
		return m.neg == n.neg && m.code == n.code && slices.EqualFunc(m.args, n.args, k.becomes)
	}
	before, is := k[m.code]
	k[m.code] = n
	return !is || equal(before, n)
}

// task is a question as trees: what is to be changed, and for each of these to what it may be changed.
type task struct {
	from []tree
	to   [][]tree
}

func (q *task) add(from, to []tree) {
	for _, n := range from {
		q.from = append(q.from, n)
		q.to = append(q.to, to)
	}
}

func taskOf(c, d api.Clause) task {
	var out task
	out.add(ofLits(c.Lits), ofLits(d.Lits))
	out.add(ofTuples(c.Tuples), ofTuples(d.Tuples))
	out.add(ofLits(c.Conds), ofLits(d.Conds))
	return out
}

// lists is how many lists there are to choose from, good ones and bad ones.
func (q *task) lists() int {
	out := 1
	for _, to := range q.to {
		out *= len(to)
	}
	return out
}

// holds tells whether one substitution makes of each part the one that the list says.
func (q *task) holds(list []int) bool {
	k := known{}
	for i, n := range q.from {
		if !k.becomes(n, q.to[i][list[i]]) {
			return false
		}
	}
	return true
}

// expect is the chapter word by word: it goes through all lists of indexes, the lexicographically least ones first, and looks at each by itself.
func expect(c, d api.Clause) ([]int, bool) {
	q := taskOf(c, d)
	list := make([]int, len(q.from))
	if q.lists() == 0 {
		return nil, false
	}
	for !q.holds(list) {
		i := len(list) - 1
		for i >= 0 && list[i] == len(q.to[i])-1 {
			list[i] = 0
			i--
		}
		if i < 0 {
			return nil, false
		}
		list[i]++
	}
	return list, true
}

// look holds the calls for two valid clauses against the plain reading, and answers whether the first one subsumes the second one.
func look(t *testing.T, c, d api.Clause) bool {
	t.Helper()
	want, ok := expect(c, d)
	answers(t, "by all lists", c, d, ok, want)
	if t.Failed() {
		t.FailNow()
	}
	return ok
}

// chance is a row of numbers by a fixed rule.
type chance uint32

func (c *chance) below(n int) int {
	*c = *c*1664525 + 1013904223
	return int(*c>>8) % n
}

// filled makes a term or an atom of a symbol, of at most so many levels and of so many variables.
func (c *chance) filled(code, levels, vars int) []int {
	out := []int{code}
	for range symbols()[code].Arity {
		out = append(out, c.term(levels, vars)...)
	}
	return out
}

func (c *chance) term(levels, vars int) []int {
	if levels <= 1 || c.below(3) == 0 {
		if vars > 0 && c.below(3) > 0 {
			return []int{x(c.below(vars))}
		}
		return []int{[]int{ann, bob, sk}[c.below(3)]}
	}
	return c.filled([]int{f, f, g}[c.below(3)], levels-1, vars)
}

// taste is what clauses are made of.
type taste struct {
	preds        []int
	levels, vars int
	width        int
}

func (c *chance) taste() taste {
	preds := [][]int{{likes}, {tall}, {likes, tall}, {likes, between}, {eq, likes, rains, tall, between}}[c.below(5)]
	return taste{preds: preds, levels: 1 + c.below(3), vars: c.below(5), width: c.below(3)}
}

func (c *chance) lits(y taste, most int) []api.Lit {
	var out []api.Lit
	for range c.below(most + 1) {
		out = append(out, api.Lit{Neg: c.below(4) == 0, Atom: c.filled(y.preds[c.below(len(y.preds))], y.levels, y.vars)})
	}
	return out
}

// clause makes a clause that is mostly valid.
func (c *chance) clause(y taste) api.Clause {
	out := api.Clause{Lits: c.lits(y, api.MaxLits), Conds: c.lits(y, api.MaxConds)}
	for range c.below(api.MaxTuples + 1) {
		var r []int
		for range y.width {
			r = append(r, c.term(y.levels, y.vars)...)
		}
		out.Tuples = append(out.Tuples, r)
	}
	return out
}

// put replaces variables by what s has for them.
func put(s [][]int, r []int) []int {
	var out []int
	for _, code := range r {
		if code < 0 && -1-code < len(s) {
			out = append(out, s[-1-code]...)
		} else {
			out = append(out, code)
		}
	}
	return out
}

// shuffled turns a list round in some way.
func shuffled[T any](c *chance, list []T) []T {
	for i := range list {
		j := c.below(i + 1)
		list[i], list[j] = list[j], list[i]
	}
	return list
}

// instance makes a clause that d subsumes: with something put for its variables, something added, and all in another order.
func (c *chance) instance(d api.Clause, y taste) api.Clause {
	var s [][]int
	for range y.vars {
		s = append(s, c.term(2, y.vars))
	}
	out := c.clause(y)
	out.Lits = out.Lits[:min(len(out.Lits), api.MaxLits-len(d.Lits))]
	out.Tuples = out.Tuples[:min(len(out.Tuples), api.MaxTuples-len(d.Tuples))]
	out.Conds = out.Conds[:min(len(out.Conds), api.MaxConds-len(d.Conds))]
	for _, l := range d.Lits {
		out.Lits = append(out.Lits, api.Lit{Neg: l.Neg, Atom: put(s, l.Atom)})
	}
	for _, r := range d.Tuples {
		out.Tuples = append(out.Tuples, put(s, r))
	}
	for _, l := range d.Conds {
		out.Conds = append(out.Conds, api.Lit{Neg: l.Neg, Atom: put(s, l.Atom)})
	}
	return api.Clause{Lits: shuffled(c, out.Lits), Tuples: shuffled(c, out.Tuples), Conds: shuffled(c, out.Conds)}
}

// spoiled changes one code of a clause, so that little is missing.
func (c *chance) spoiled(d api.Clause) api.Clause {
	out := copied(d)
	var all [][]int
	for _, l := range slices.Concat(out.Lits, out.Conds) {
		all = append(all, l.Atom[1:])
	}
	all = slices.DeleteFunc(append(all, out.Tuples...), func(r []int) bool { return len(r) == 0 })
	if len(all) == 0 {
		return out
	}
	r := all[c.below(len(all))]
	i := c.below(len(r))
	if r[i] < 0 || symbols()[r[i]].Arity == 0 {
		r[i] = []int{ann, bob, x(0), x(1)}[c.below(4)]
	}
	return out
}

func copied(c api.Clause) api.Clause {
	var out api.Clause
	for _, l := range c.Lits {
		out.Lits = append(out.Lits, api.Lit{Neg: l.Neg, Atom: slices.Clone(l.Atom)})
	}
	for _, r := range c.Tuples {
		out.Tuples = append(out.Tuples, slices.Clone(r))
	}
	for _, l := range c.Conds {
		out.Conds = append(out.Conds, api.Lit{Neg: l.Neg, Atom: slices.Clone(l.Atom)})
	}
	return out
}

// pair makes two clauses of one taste: any ones, or one that subsumes the other one, or would if not for one code.
func (c *chance) pair() (api.Clause, api.Clause) {
	y := c.taste()
	first := c.clause(y)
	switch c.below(4) {
	case 0:
		return first, c.clause(y)
	case 1:
		return first, c.spoiled(c.instance(first, y))
	case 2:
		return c.spoiled(first), c.instance(first, y)
	}
	return first, c.instance(first, y)
}

func TestManyPairs(t *testing.T) {
	c := chance(3)
	var seen [2]int
	for range 20000 {
		first, second := c.pair()
		q := taskOf(first, second)
		if !clause.May(symbols(), first) || !clause.May(symbols(), second) || q.lists() > 2000 {
			continue
		}
		if look(t, first, second) {
			seen[0]++
		} else {
			seen[1]++
		}
		look(t, second, first)
	}
	if slices.Min(seen[:]) < 2500 {
		t.Errorf("too few of a kind: %v", seen)
	}
}

// Clauses of as many parts as may be, of two predicates and a few constants: there are many lists, of which few hold or none.
func TestManyFullPairs(t *testing.T) {
	c := chance(5)
	var seen [2]int
	for range 60 {
		vars := 3 + c.below(6)
		full := func(vars int) api.Clause {
			code := func() int {
				if vars > 0 {
					return x(c.below(vars))
				}
				return []int{ann, bob}[c.below(2)]
			}
			var out api.Clause
			for range 4 + c.below(2) {
				out.Lits = append(out.Lits, is(likes, code(), code()))
			}
			for range 2 {
				out.Tuples = append(out.Tuples, row(code(), code()))
				out.Conds = append(out.Conds, is(likes, code(), code()))
			}
			out.Conds = append(out.Conds, not(tall, code()))
			return out
		}
		if look(t, full(vars), full(0)) {
			seen[0]++
		} else {
			seen[1]++
		}
	}
	if slices.Min(seen[:]) < 5 {
		t.Errorf("too few of a kind: %v", seen)
	}
}

// Variables that stand in two or three Lits of one predicate each: most first choices have to be taken back.
func TestManyNets(t *testing.T) {
	c := chance(77)
	var seen [2]int
	for range 15000 {
		vars := 2 + c.below(4)
		var first, second api.Clause
		for range 3 + c.below(2) {
			first.Lits = append(first.Lits, is(likes, x(c.below(vars)), x(c.below(vars))))
		}
		for range 3 + c.below(3) {
			second.Lits = append(second.Lits, is(likes, []int{ann, bob, sk}[c.below(3)], []int{ann, bob, sk}[c.below(3)]))
		}
		if look(t, first, second) {
			seen[0]++
		} else {
			seen[1]++
		}
	}
	if slices.Min(seen[:]) < 2500 {
		t.Errorf("too few of a kind: %v", seen)
	}
}

// All clauses of two of a few Lits, against each other.
func TestAllSmallPairs(t *testing.T) {
	var few []api.Clause
	for _, atom := range [][]int{{rains}, {tall, x(0)}, {tall, x(1)}, {tall, ann}, {tall, f, x(0)}, {likes, x(0), x(1)}, {likes, x(1), x(0)}, {likes, x(0), x(0)}, {likes, ann, x(0)}} {
		few = append(few, lits(is(atom...)), lits(not(atom...)), conds(is(atom...)))
	}
	few = append(few, api.Clause{}, tuples(nil), tuples(row(x(0))), tuples(row(ann)))
	var all []api.Clause
	for i, c := range few {
		for j, d := range few {
			if both := whole(c, d); (i+j)%2 == 0 && clause.May(symbols(), both) {
				all = append(all, both)
			}
		}
	}
	yes := 0
	for _, c := range all {
		for _, d := range all {
			if look(t, c, d) {
				yes++
			}
		}
	}
	if yes < 5000 || len(all)*len(all)-yes < 5000 {
		t.Errorf("too few of a kind: %d of %d", yes, len(all)*len(all))
	}
}

// What subsumes is never above in points, however it came about; and the order of parts does not count for Does.
func TestDoesDoesNotSeeOrder(t *testing.T) {
	c := chance(13)
	yes := 0
	for range 5000 {
		first, second := c.pair()
		if !clause.May(symbols(), first) || !clause.May(symbols(), second) {
			continue
		}
		want, e := subsume.Does(symbols(), first, second)
		a, b := copied(first), copied(second)
		shuffled(&c, a.Lits)
		shuffled(&c, b.Lits)
		shuffled(&c, a.Conds)
		shuffled(&c, b.Tuples)
		if got, f := subsume.Does(symbols(), a, b); got != want || e != api.OK || f != api.OK {
			t.Fatalf("P10.2: Does(%v, %v) = %t, in another order %t", first, second, want, got)
		}
		p, _ := point.Of(symbols(), a)
		q, _ := point.Of(symbols(), b)
		if under, _ := point.Under(p, q); want && !under {
			t.Fatalf("P10.3: %v subsumes %v, their points are %v and %v", first, second, p, q)
		}
		if want {
			yes++
		}
	}
	if yes < 1000 {
		t.Errorf("too few: %d", yes)
	}
}

// What subsumes a clause that subsumes a third one subsumes that one.
func TestGoesOn(t *testing.T) {
	c := chance(17)
	chains := 0
	for range 5000 {
		y := c.taste()
		first := c.clause(y)
		second := c.instance(first, y)
		third := c.instance(second, y)
		if !clause.May(symbols(), first) || !clause.May(symbols(), second) || !clause.May(symbols(), third) {
			continue
		}
		chains++
		for _, pair := range [][2]api.Clause{{first, second}, {second, third}, {first, third}, {first, first}} {
			if does, e := subsume.Does(symbols(), pair[0], pair[1]); !does || e != api.OK {
				t.Fatalf("P10.2: Does(%v, %v) = %t, %d", pair[0], pair[1], does, e)
			}
		}
	}
	if chains < 1000 {
		t.Errorf("too few: %d", chains)
	}
}

// However many lists there are, a call takes a small part of the time in which all of them could be looked at.
func TestTime(t *testing.T) {
	c := chance(19)
	begin := time.Now()
	for range 3000 {
		first, second := ring(), sides(true)
		for _, list := range [][]api.Lit{first.Lits, second.Lits, first.Conds, second.Conds} {
			shuffled(&c, list)
		}
		first.Conds[c.below(3)].Atom[1+c.below(2)] = x(c.below(11))
		if _, e := subsume.Does(symbols(), first, second); e != api.OK {
			t.Fatalf("P10.2: %d", e)
		}
	}
	if spent := time.Since(begin); spent > 30*time.Second {
		t.Errorf("R1: 3000 calls took %v", spent)
	}
}

// No call may panic, whatever the numbers: wrong symbols, codes and sizes together.
func TestWildArguments(t *testing.T) {
	c := chance(9)
	wild := []int{math.MinInt, math.MinInt + 1, -25, -24, -2, -1, 0, 1, 2, 3, 4, 5, 8, 9, 10, 11, 48, math.MaxInt - 1, math.MaxInt}
	pick := func() int { return wild[c.below(len(wild))] }
	codes := func() []int {
		var out []int
		for range c.below(4) {
			out = append(out, pick())
		}
		return out
	}
	var seen [2]int
	for range 30000 {
		sig := symbols()
		if c.below(2) == 0 {
			sig[c.below(len(sig))] = api.Sym{Name: "w", Kind: pick(), Arity: pick(), Weight: pick()}
		}
		first, second := c.pair()
		for _, d := range []*api.Clause{&first, &second} {
			switch c.below(8) {
			case 0:
				d.Lits = append(d.Lits, api.Lit{Neg: c.below(2) == 0, Atom: codes()})
			case 1:
				d.Conds = append(d.Conds, api.Lit{Atom: codes()})
			case 2:
				d.Tuples = append(d.Tuples, codes())
			}
		}
		list, ok, e := subsume.Places(sig, first, second)
		does, f := subsume.Does(sig, first, second)
		may := clause.May(sig, first) && clause.May(sig, second)
		switch {
		case does != ok || e != f || may != (e == api.OK) || !ok && len(list) > 0:
			t.Fatalf("R1, R2: %v, %v, %v: %v, %t, %d; %t, %d", sig, first, second, list, ok, e, does, f)
		case may:
			seen[0]++
		case e == api.ErrSubsumeForm:
			seen[1]++
		default:
			t.Fatalf("P10.1: %v, %v, %v: %d", sig, first, second, e)
		}
	}
	if slices.Min(seen[:]) < 2000 {
		t.Errorf("too few of a kind: %v", seen)
	}
}

// roomy copies a clause, with something in the spare capacity of each of its lists.
func roomy(c api.Clause) api.Clause {
	spare := func(r []int) []int {
		return append(slices.Clone(r), 99, -99, ann)[:len(r)]
	}
	literals := func(ls []api.Lit) []api.Lit {
		var out []api.Lit
		for _, l := range ls {
			out = append(out, api.Lit{Neg: l.Neg, Atom: spare(l.Atom)})
		}
		return append(out, is(rains), not(tall, x(0)), is(99))[:len(ls)]
	}
	out := api.Clause{Lits: literals(c.Lits), Conds: literals(c.Conds)}
	for _, r := range c.Tuples {
		out.Tuples = append(out.Tuples, spare(r))
	}
	out.Tuples = append(out.Tuples, row(ann), nil)[:len(c.Tuples)]
	return out
}

// everything writes down a clause with what is in the spare capacity of all its lists.
func everything(c api.Clause) string {
	out := fmt.Sprint(len(c.Lits), len(c.Tuples), len(c.Conds))
	for _, l := range slices.Concat(c.Lits[:cap(c.Lits)], c.Conds[:cap(c.Conds)]) {
		out += fmt.Sprint(l.Neg, len(l.Atom), l.Atom[:cap(l.Atom)])
	}
	for _, r := range c.Tuples[:cap(c.Tuples)] {
		out += fmt.Sprint(len(r), r[:cap(r)])
	}
	return out
}

// isHuge tells of clauses that take long to be written down.
func isHuge(c api.Clause) bool {
	long := func(l api.Lit) bool { return len(l.Atom) > 100 }
	return len(c.Lits)+len(c.Tuples)+len(c.Conds) > 100 || slices.ContainsFunc(c.Lits, long) || slices.ContainsFunc(c.Conds, long)
}

// somePairs are valid clauses and ones that are not, in both places.
func somePairs() [][2]api.Clause {
	out := [][2]api.Clause{{}, {ring(), sides(true)}, {ring(), ring()}, {sides(true), sides(false)}}
	for i, wrong := range slices.DeleteFunc(wrongClauses(), isHuge) {
		out = append(out, [2]api.Clause{wrong, ring()}, [2]api.Clause{sides(i%2 == 0), wrong})
	}
	c := chance(21)
	for range 500 {
		first, second := c.pair()
		out = append(out, [2]api.Clause{first, second})
	}
	return out
}

// The calls neither change their arguments nor see what is in their spare capacity.
func TestArgumentsUnchanged(t *testing.T) {
	for _, pair := range somePairs() {
		c, d := roomy(pair[0]), roomy(pair[1])
		sig := append(symbols(), api.Sym{Name: "tail", Kind: -7, Arity: -7, Weight: -7})
		beforeC, beforeD, beforeSig := everything(c), everything(d), slices.Clone(sig)
		want, ok, e := subsume.Places(symbols(), pair[0], pair[1])
		got, gotOk, f := subsume.Places(sig[:beyond], c, d)
		does, g := subsume.Does(sig[:beyond], c, d)
		if !slices.Equal(got, want) || gotOk != ok || does != ok || e != f || e != g {
			t.Fatalf("R4, R5: %v: %v, %t, %d; with spare capacity %v, %t, %d and %t, %d", pair, want, ok, e, got, gotOk, f, does, g)
		}
		refused(t, "a symbol of the spare capacity", 0, sig, c, d)
		if everything(c) != beforeC || everything(d) != beforeD || !slices.Equal(sig, beforeSig) {
			t.Fatalf("R4: arguments were changed: %v, %v, %v", c, d, sig)
		}
	}
}

// One clause in both places is no other case than two equal ones.
func TestSharedArguments(t *testing.T) {
	for _, pair := range somePairs() {
		c := pair[0]
		got, ok, e := subsume.Places(symbols(), c, c)
		want, wantOk, f := subsume.Places(symbols(), c, copied(c))
		if !slices.Equal(got, want) || ok != wantOk || e != f || ok != (e == api.OK) {
			t.Fatalf("R5: Places(%v, itself) = %v, %t, %d; of a copy %v, %t, %d", c, got, ok, e, want, wantOk, f)
		}
	}
}

// What is told hangs on no earlier result, which is its caller's.
func TestResultsOfTheirOwn(t *testing.T) {
	for _, pair := range somePairs() {
		first, _, _ := subsume.Places(symbols(), pair[0], pair[1])
		kept := slices.Clone(first)
		second, _, _ := subsume.Places(symbols(), pair[0], pair[1])
		for i := range first[:cap(first)] {
			first[:cap(first)][i] = -5
		}
		third, _, _ := subsume.Places(symbols(), pair[0], pair[1])
		if !slices.Equal(second, kept) || !slices.Equal(third, kept) {
			t.Fatalf("R4, R5: Places of %v: %v, then %v and %v", pair, kept, second, third)
		}
	}
}

// Run with -race, this also tells of calls that write what others read.
func TestCallsAtOnce(t *testing.T) {
	sig, some := symbols(), somePairs()
	var joined sync.WaitGroup
	for range 8 {
		joined.Add(1)
		go func() {
			defer joined.Done()
			for _, pair := range some {
				got, ok, e := subsume.Places(sig, pair[0], pair[1])
				does, f := subsume.Does(sig, pair[0], pair[1])
				if !clause.May(sig, pair[0]) || !clause.May(sig, pair[1]) {
					if len(got) > 0 || ok || does || e != api.ErrSubsumeForm || f != e {
						t.Errorf("R5: at once: Places of %v: %v, %t, %d", pair, got, ok, e)
					}
					continue
				}
				if ok != does || e != api.OK || f != e || ok && len(got) != len(pair[0].Lits)+len(pair[0].Tuples)+len(pair[0].Conds) {
					t.Errorf("R5: at once: Places of %v: %v, %t, %d; Does %t, %d", pair, got, ok, e, does, f)
				}
			}
		}()
	}
	joined.Wait()
}
