package resolve_test

import (
	"fmt"
	"math"
	"slices"
	"sync"
	"testing"

	"quaere/api"
	"quaere/bind"
	"quaere/clause"
	"quaere/lit"
	"quaere/resolve"
	"quaere/subsume"
	"quaere/unify"
	"quaere/world"
)

// each makes a clause of what to makes of the Tuples and of the Atoms' arguments of another one; it tells the first error.
func each(c api.Clause, to func(r []int) ([]int, api.Errno)) (api.Clause, api.Errno) {
	var out api.Clause
	var first api.Errno
	use := func(r []int) []int {
		u, e := to(r)
		if first == api.OK {
			first = e
		}
		return u
	}
	literal := func(l api.Lit) api.Lit {
		return api.Lit{Neg: l.Neg, Atom: append(row(l.Atom[0]), use(l.Atom[1:])...)}
	}
	for _, l := range c.Lits {
		out.Lits = append(out.Lits, literal(l))
	}
	for _, r := range c.Tuples {
		out.Tuples = append(out.Tuples, use(r))
	}
	for _, l := range c.Conds {
		out.Conds = append(out.Conds, literal(l))
	}
	return out, first
}

// numbers tells by how much the variables of the other clause are increased.
func numbers(t *testing.T, c api.Clause) int {
	t.Helper()
	vars, e := clause.Vars(symbols(), c)
	if e != api.OK {
		t.Fatalf("clause.Vars(%v): %d", c, e)
	}
	if len(vars) == 0 {
		return 0
	}
	return vars[len(vars)-1] + 1
}

// expectOne is P13.1 word by word, on the layers before; the arguments are known to be valid.
func expectOne(t *testing.T, c api.Clause, i int, d api.Clause, j int) (api.Clause, bool, api.Errno) {
	t.Helper()
	if c.Lits[i].Neg == d.Lits[j].Neg || c.Lits[i].Atom[0] != d.Lits[j].Atom[0] {
		return api.Clause{}, false, api.OK
	}
	by := numbers(t, c)
	d, e := each(d, func(r []int) ([]int, api.Errno) { return bind.Shift(symbols(), r, by) })
	if e == api.ErrBindFar {
		return api.Clause{}, false, api.ErrResolveFar
	}
	s, ok, f := unify.Unify(symbols(), c.Lits[i].Atom[1:], d.Lits[j].Atom[1:])
	if f == api.ErrUnifyLong {
		return api.Clause{}, false, api.ErrResolveLong
	}
	if e != api.OK || f != api.OK {
		t.Fatalf("%v, %v: %d, %d", c, d, e, f)
	}
	if !ok {
		return api.Clause{}, false, api.OK
	}
	all := whole(c, d)
	all.Lits = slices.Concat(c.Lits[:i], c.Lits[i+1:], d.Lits[:j], d.Lits[j+1:])
	all, e = each(all, func(r []int) ([]int, api.Errno) { return bind.Apply(symbols(), s, r) })
	if e == api.ErrBindLong || e == api.OK && !clause.May(symbols(), all) {
		return api.Clause{}, false, api.ErrResolveLong
	}
	all, f = clause.Normal(symbols(), all)
	if e != api.OK || f != api.OK {
		t.Fatalf("%v, %v: %d, %d", c, d, e, f)
	}
	return all, true, api.OK
}

// expectAll is P13.2 word by word.
func expectAll(t *testing.T, c api.Clause, a int, d api.Clause, b int) ([]api.Step, int) {
	t.Helper()
	left, e := lit.Tops(symbols(), c.Lits)
	right, f := lit.Tops(symbols(), d.Lits)
	if e != api.OK || f != api.OK {
		t.Fatalf("lit.Tops: %v, %v: %d, %d", c, d, e, f)
	}
	var out []api.Step
	n := 0
	for i := range c.Lits {
		for j := range d.Lits {
			if !slices.Contains(left, i) || !slices.Contains(right, j) {
				continue
			}
			made, ok, e := expectOne(t, c, i, d, j)
			if e != api.OK {
				n++
			}
			if trivial, _ := clause.Trivial(symbols(), made); ok && !trivial {
				out = append(out, step(a, i, b, j, made))
			}
		}
	}
	return out, n
}

// chance is a row of numbers by a fixed rule.
type chance uint32

func (c *chance) below(n int) int {
	*c = *c*1664525 + 1013904223
	return int(*c>>8) % n
}

// filled makes a term or an atom of a symbol, of at most so many levels and of so many variables.
func (c *chance) filled(code, levels, vars int) []int {
	out := []int{code}
	for range symbols()[code].Arity {
		out = append(out, c.term(levels, vars)...)
	}
	return out
}

func (c *chance) term(levels, vars int) []int {
	if levels <= 1 || c.below(3) == 0 {
		if vars > 0 && c.below(3) > 0 {
			return []int{x(c.below(vars))}
		}
		return []int{[]int{ann, bob, sk}[c.below(3)]}
	}
	return c.filled([]int{f, f, g, h}[c.below(4)], levels-1, vars)
}

// taste is what clauses are made of.
type taste struct {
	preds        []int
	levels, vars int
	width        int
}

func (c *chance) taste() taste {
	preds := [][]int{{likes}, {tall}, {likes, tall}, {likes, between}, {eq, likes, rains, tall, between}}[c.below(5)]
	return taste{preds: preds, levels: 1 + c.below(3), vars: c.below(6), width: c.below(3)}
}

func (c *chance) literals(y taste, most int) []api.Lit {
	var out []api.Lit
	for range c.below(most + 1) {
		out = append(out, api.Lit{Neg: c.below(2) == 0, Atom: c.filled(y.preds[c.below(len(y.preds))], y.levels, y.vars)})
	}
	return out
}

func (c *chance) clause(y taste) api.Clause {
	out := api.Clause{Lits: c.literals(y, 3), Conds: c.literals(y, 2)}
	for range c.below(3) {
		var r []int
		for range y.width {
			r = append(r, c.term(y.levels, y.vars)...)
		}
		out.Tuples = append(out.Tuples, r)
	}
	return out
}

func copied(c api.Clause) api.Clause {
	var out api.Clause
	for _, l := range c.Lits {
		out.Lits = append(out.Lits, api.Lit{Neg: l.Neg, Atom: slices.Clone(l.Atom)})
	}
	for _, r := range c.Tuples {
		out.Tuples = append(out.Tuples, slices.Clone(r))
	}
	for _, l := range c.Conds {
		out.Conds = append(out.Conds, api.Lit{Neg: l.Neg, Atom: slices.Clone(l.Atom)})
	}
	return out
}

// raised gives greater numbers to all variables; it may make a clause that is not valid.
func raised(c api.Clause, by int) api.Clause {
	out, _ := each(c, func(r []int) ([]int, api.Errno) {
		u := slices.Clone(r)
		for i, code := range u {
			if code < 0 {
				u[i] = code - by
			}
		}
		return u, api.OK
	})
	return out
}

// pair makes two clauses of one taste, often with Lits that are opposite; often the variables' numbers are great.
func (c *chance) pair() (api.Clause, api.Clause) {
	y := c.taste()
	first, second := c.clause(y), c.clause(y)
	for _, l := range first.Lits {
		if c.below(3) == 0 {
			at := c.below(len(second.Lits) + 1)
			second.Lits = slices.Insert(second.Lits, at, api.Lit{Neg: !l.Neg, Atom: slices.Clone(l.Atom)})
		}
	}
	if c.below(4) == 0 {
		first, second = raised(first, c.below(14)), raised(second, c.below(14))
	}
	return first, second
}

// validPairs makes pairs until so many are valid.
func (c *chance) validPairs(n int, look func(first, second api.Clause)) {
	for n > 0 {
		first, second := c.pair()
		if clause.May(symbols(), first) && clause.May(symbols(), second) {
			look(first, second)
			n--
		}
	}
}

func TestManyPairs(t *testing.T) {
	c := chance(3)
	seen, steps, left := map[api.Errno]int{}, 0, 0
	c.validPairs(12000, func(first, second api.Clause) {
		for i := range first.Lits {
			for j := range second.Lits {
				want, wantOk, f := expectOne(t, first, i, second, j)
				got, ok, e := resolve.One(symbols(), first, i, second, j)
				if ok != wantOk || e != f || !same(got, want) {
					t.Fatalf("P13.1: One(%v, %d, %v, %d) = %v, %t, %d; want %v, %t, %d", first, i, second, j, got, ok, e, want, wantOk, f)
				}
				if ok {
					e = -1
				}
				seen[e]++
			}
		}
		a, b := c.below(1000)-500, c.below(1000)
		want, n := expectAll(t, first, a, second, b)
		makes(t, "of many", first, a, second, b, n, want...)
		if t.Failed() {
			t.FailNow()
		}
		steps += len(want)
		left += n
	})
	if seen[-1] < 3000 || seen[api.OK] < 3000 || seen[api.ErrResolveFar] < 500 || seen[api.ErrResolveLong] < 500 || steps < 2000 || left < 500 {
		t.Errorf("too few of a kind: %v, %d steps, %d left", seen, steps, left)
	}
}

// Numbers of variables that are just not too great, everywhere.
func TestManyNumbers(t *testing.T) {
	c := chance(5)
	var seen [2]int
	for range 10000 {
		y := c.taste()
		y.levels = 2
		first, second := whole(lits(is(rains)), c.clause(y)), whole(lits(not(rains)), c.clause(y))
		by, n, m := 1+c.below(12), numbers(t, first), numbers(t, second)
		first, second = raised(first, by), raised(second, api.MaxVar+1-by-n-m+c.below(2))
		if !clause.May(symbols(), first) || !clause.May(symbols(), second) || n == 0 || m == 0 {
			continue
		}
		_, _, f := expectOne(t, first, 0, second, 0)
		_, _, e := resolve.One(symbols(), first, 0, second, 0)
		if far := numbers(t, first)+numbers(t, second) > api.MaxVar+1; e != f || far != (e == api.ErrResolveFar) {
			t.Fatalf("P13.1: One(%v, %v): %d; want %d, far: %t", first, second, e, f, far)
		}
		if e == api.ErrResolveFar {
			seen[0]++
		} else {
			seen[1]++
		}
	}
	if slices.Min(seen[:]) < 1000 {
		t.Errorf("too few of a kind: %v", seen)
	}
}

// grounds are all clauses that c becomes by small terms for its variables.
func grounds(t *testing.T, c api.Clause) []api.Clause {
	t.Helper()
	vars, _ := clause.Vars(symbols(), c)
	out := []api.Clause{c}
	for _, v := range vars {
		var more []api.Clause
		for _, d := range out {
			for _, r := range [][]int{{ann}, {bob}, {f, ann}, {f, bob}, {f, f, ann}, {g, ann, bob}} {
				u, e := each(d, func(s []int) ([]int, api.Errno) {
					return bind.Apply(symbols(), []api.Bind{{Var: v, Term: r}}, s)
				})
				if e != api.OK {
					t.Fatalf("bind.Apply: %d", e)
				}
				more = append(more, u)
			}
		}
		out = more
	}
	return out
}

// Whatever two clauses without variables make that the two are instances of, is an instance of what these make; where they make nothing, no instances do. This says that the unifier is a most general one, without layer 4.
func TestGroundInstances(t *testing.T) {
	c := chance(8)
	var seen [2]int
	for range 3000 {
		y := taste{preds: [][]int{{tall}, {likes}, {likes, tall}, {eq, tall}}[c.below(4)], levels: 2, vars: c.below(3), width: 1}
		first, second := c.clause(y), c.clause(y)
		if len(first.Lits) == 0 || len(second.Lits) == 0 {
			continue
		}
		second.Lits[0] = api.Lit{Neg: !first.Lits[0].Neg, Atom: c.filled(first.Lits[0].Atom[0], 2, y.vars)}
		got, ok, e := resolve.One(symbols(), first, 0, second, 0)
		if e != api.OK {
			continue
		}
		rights := grounds(t, second)
		for _, left := range grounds(t, first) {
			for _, right := range rights {
				if !slices.Equal(left.Lits[0].Atom, right.Lits[0].Atom) {
					continue
				}
				made := api.Clause{Lits: slices.Concat(left.Lits[1:], right.Lits[1:]), Tuples: slices.Concat(left.Tuples, right.Tuples), Conds: slices.Concat(left.Conds, right.Conds)}
				if does, e := subsume.Does(symbols(), got, made); !ok || !does || e != api.OK {
					t.Fatalf("P13.1: One(%v, 0, %v, 0) = %v, %t; but of %v and %v comes %v", first, second, got, ok, left, right, made)
				}
				seen[0]++
			}
		}
		if !ok {
			seen[1]++
		}
	}
	if seen[0] < 5000 || seen[1] < 300 {
		t.Errorf("too few of a kind: %v", seen)
	}
}

// few are the symbols of small structures; their codes are those of symbols().
func few() []api.Sym {
	return symbols()[:g]
}

// smallClause makes a clause of these symbols but rains and bob, with so many variables.
func (c *chance) smallClause(vars int) api.Clause {
	literal := func() api.Lit {
		l := api.Lit{Neg: c.below(2) == 0, Atom: row([]int{tall, tall, eq, likes}[c.below(4)])}
		for range symbols()[l.Atom[0]].Arity {
			term := []int{ann}
			if c.below(3) > 0 {
				term = []int{x(c.below(vars))}
			}
			if c.below(3) == 0 {
				term = append(row(f), term...)
			}
			l.Atom = append(l.Atom, term...)
		}
		return l
	}
	var out api.Clause
	for range 1 + c.below(2) {
		out.Lits = append(out.Lits, literal())
	}
	if c.below(3) == 0 {
		out.Conds = append(out.Conds, literal())
	}
	if c.below(3) == 0 {
		out.Tuples = append(out.Tuples, []int{[]int{ann, x(0), x(vars - 1)}[c.below(3)]})
	}
	return out
}

// structures are all of one element, all of two in which it does not rain, and bob is ann, and some of three.
func structures() []world.World {
	var out []world.World
	for w := range world.All(few(), 1, 1) {
		out = append(out, w)
	}
	for w := range world.All(few(), 2, 1) {
		if w.Holds(lits(not(rains))) && w.Holds(lits(is(eq, ann, bob))) {
			out = append(out, w)
		}
	}
	c := chance(1)
	for range 500 {
		out = append(out, world.Make(few(), 3, 1, c.below))
	}
	return out
}

// Where both clauses hold, a resolvent holds; and it is not true for nothing: one that says more does not hold everywhere there.
func TestResolventsFollow(t *testing.T) {
	c := chance(12)
	worlds := structures()
	found, counted := 0, 0
	for range 600 {
		first, second := c.smallClause(2), c.smallClause(2)
		var made []api.Clause
		for i := range first.Lits {
			for j := range second.Lits {
				if got, ok, _ := resolve.One(symbols(), first, i, second, j); ok {
					made = append(made, got)
				}
			}
		}
		if len(made) == 0 {
			continue
		}
		for _, w := range worlds {
			if !w.Holds(first) || !w.Holds(second) {
				continue
			}
			for _, got := range made {
				found++
				if !w.Holds(got) {
					t.Fatalf("P13.3: %v does not hold in a structure in which %v and %v hold", got, first, second)
				}
				if len(got.Lits) > 0 {
					less := got
					less.Lits = got.Lits[1:]
					if !w.Holds(less) {
						counted++
					}
				}
			}
		}
	}
	if found < 20000 || counted < 1000 {
		t.Errorf("too few: %d, %d", found, counted)
	}
}

// No call may panic, whatever the numbers: wrong symbols, codes, indexes and sizes together.
func TestWildArguments(t *testing.T) {
	c := chance(9)
	wild := []int{math.MinInt, math.MinInt + 1, -25, -24, -2, -1, 0, 1, 2, 3, 4, 5, 8, 9, 10, 11, 48, math.MaxInt - 1, math.MaxInt}
	pick := func() int { return wild[c.below(len(wild))] }
	codes := func() []int {
		var out []int
		for range c.below(4) {
			out = append(out, pick())
		}
		return out
	}
	var seen [3]int
	for range 30000 {
		sig := symbols()
		if c.below(5) == 0 {
			sig[c.below(len(sig))] = api.Sym{Name: "w", Kind: pick(), Arity: pick(), Weight: pick()}
		}
		first, second := c.pair()
		for _, d := range []*api.Clause{&first, &second} {
			switch c.below(20) {
			case 0:
				d.Lits = append(d.Lits, api.Lit{Neg: c.below(2) == 0, Atom: codes()})
			case 1:
				d.Conds = append(d.Conds, api.Lit{Atom: codes()})
			case 2:
				d.Tuples = append(d.Tuples, codes())
			}
		}
		i, j := c.below(3), c.below(3)
		if c.below(6) == 0 {
			i, j = pick(), pick()
		}
		may := clause.May(sig, first) && clause.May(sig, second)
		index := i >= 0 && i < len(first.Lits) && j >= 0 && j < len(second.Lits)
		got, ok, e := resolve.One(sig, first, i, second, j)
		steps, n, f := resolve.All(sig, first, i, second, j)
		switch {
		case !ok && !isEmpty(got) || ok && (e != api.OK || !clause.May(sig, got)):
			t.Fatalf("R1, R2: One(%v, %v, %d, %v, %d) = %v, %t, %d", sig, first, i, second, j, got, ok, e)
		case (may && index) == (e == api.ErrResolveForm):
			t.Fatalf("P13.1: One(%v, %v, %d, %v, %d): %d", sig, first, i, second, j, e)
		case may != (f == api.OK) || !may && (f != api.ErrResolveForm || len(steps) > 0 || n != 0):
			t.Fatalf("P13.2: All(%v, %v, %d, %v, %d) = %v, %d, %d", sig, first, i, second, j, steps, n, f)
		case !may:
			seen[0]++
		case !index:
			seen[1]++
		default:
			seen[2]++
		}
	}
	if slices.Min(seen[:]) < 2000 {
		t.Errorf("too few of a kind: %v", seen)
	}
}

// roomy copies a clause, with something in the spare capacity of each of its lists.
func roomy(c api.Clause) api.Clause {
	spare := func(r []int) []int {
		return append(slices.Clone(r), 99, -99, ann)[:len(r)]
	}
	literals := func(ls []api.Lit) []api.Lit {
		var out []api.Lit
		for _, l := range ls {
			out = append(out, api.Lit{Neg: l.Neg, Atom: spare(l.Atom)})
		}
		return append(out, is(rains), not(tall, x(0)), is(99))[:len(ls)]
	}
	out := api.Clause{Lits: literals(c.Lits), Conds: literals(c.Conds)}
	for _, r := range c.Tuples {
		out.Tuples = append(out.Tuples, spare(r))
	}
	out.Tuples = append(out.Tuples, row(ann), nil)[:len(c.Tuples)]
	return out
}

// everything writes down a clause with what is in the spare capacity of all its lists.
func everything(c api.Clause) string {
	out := fmt.Sprint(len(c.Lits), len(c.Tuples), len(c.Conds))
	for _, l := range slices.Concat(c.Lits[:cap(c.Lits)], c.Conds[:cap(c.Conds)]) {
		out += fmt.Sprint(l.Neg, len(l.Atom), l.Atom[:cap(l.Atom)])
	}
	for _, r := range c.Tuples[:cap(c.Tuples)] {
		out += fmt.Sprint(len(r), r[:cap(r)])
	}
	return out
}

// rowsOf gives the lists of codes in a clause.
func rowsOf(c api.Clause) [][]int {
	var out [][]int
	for _, l := range slices.Concat(c.Lits, c.Conds) {
		out = append(out, l.Atom)
	}
	return append(out, c.Tuples...)
}

// scribble overwrites a clause with its spare capacity: what shares its memory changes.
func scribble(c api.Clause) {
	for _, r := range rowsOf(c) {
		r = r[:cap(r)]
		for i := range r {
			r[i] = -777
		}
	}
	clear(c.Lits[:cap(c.Lits)])
	clear(c.Tuples[:cap(c.Tuples)])
	clear(c.Conds[:cap(c.Conds)])
}

// somePairs are valid clauses and ones that are not, in both places.
func somePairs() [][2]api.Clause {
	ground := whole(lits(is(tall, ann), is(rains)), tuples(row(bob, ann)), conds(is(tall, bob)))
	denial := whole(lits(not(tall, ann), is(likes, ann, bob)), tuples(row(ann, ann)), conds(is(tall, ann)))
	out := [][2]api.Clause{{}, {ground, denial}, {denial, ground}, {long(is(rains)), lits(not(rains))}, {long(not(rains)), long(is(rains))}}
	for _, wrong := range wrongClauses() {
		if len(wrong.Lits) < 100 {
			out = append(out, [2]api.Clause{wrong, ground}, [2]api.Clause{denial, wrong})
		}
	}
	c := chance(21)
	for range 400 {
		first, second := c.pair()
		out = append(out, [2]api.Clause{first, second})
	}
	return out
}

// The calls neither change their arguments nor see what is in their spare capacity.
func TestArgumentsUnchanged(t *testing.T) {
	for _, pair := range somePairs() {
		c, d := roomy(pair[0]), roomy(pair[1])
		sig := append(symbols(), api.Sym{Name: "tail", Kind: -7, Arity: -7, Weight: -7})
		beforeC, beforeD, beforeSig := everything(c), everything(d), slices.Clone(sig)
		for i := -1; i <= len(c.Lits); i++ {
			for j := -1; j <= len(d.Lits); j++ {
				want, wantOk, f := resolve.One(symbols(), pair[0], i, pair[1], j)
				got, ok, e := resolve.One(sig[:beyond], c, i, d, j)
				if !same(got, want) || ok != wantOk || e != f {
					t.Fatalf("R4, R5: One of %v: %v, %t, %d; with spare capacity %v, %t, %d", pair, want, wantOk, f, got, ok, e)
				}
				scribble(got)
			}
		}
		want, m, f := resolve.All(symbols(), pair[0], 1, pair[1], 2)
		got, n, e := resolve.All(sig[:beyond], c, 1, d, 2)
		if !slices.EqualFunc(got, want, sameStep) || n != m || e != f {
			t.Fatalf("R4, R5: All of %v: %v, %d, %d; with spare capacity %v, %d, %d", pair, want, m, f, got, n, e)
		}
		for _, s := range got {
			scribble(s.Clause)
		}
		refused(t, "a symbol of the spare capacity", sig, c, 0, d, 0)
		if everything(c) != beforeC || everything(d) != beforeD || !slices.Equal(sig, beforeSig) {
			t.Fatalf("R4: arguments were changed: %v, %v, %v", c, d, sig)
		}
	}
}

// One clause in both places is no other case than two equal ones.
func TestSharedArguments(t *testing.T) {
	for _, pair := range somePairs() {
		for _, c := range pair {
			got, n, e := resolve.All(symbols(), c, 1, c, 2)
			want, m, f := resolve.All(symbols(), c, 1, copied(c), 2)
			if !slices.EqualFunc(got, want, sameStep) || n != m || e != f {
				t.Fatalf("R5: All(%v, itself) = %v, %d, %d; of a copy %v, %d, %d", c, got, n, e, want, m, f)
			}
			if e != api.OK {
				continue
			}
			want, m = expectAll(t, c, 1, c, 2)
			makes(t, "with itself", c, 1, c, 2, m, want...)
		}
	}
}

// The arguments and an earlier result are overwritten after the call: a result that kept a piece of them would change.
func TestResultsApart(t *testing.T) {
	for _, pair := range somePairs() {
		c, d := copied(pair[0]), copied(pair[1])
		kept, _, _ := resolve.All(symbols(), pair[0], 1, pair[1], 2)
		first, ok, _ := resolve.One(symbols(), c, 0, d, 0)
		keptFirst := copied(first)
		again, _, _ := resolve.One(symbols(), c, 0, d, 0)
		scribble(again)
		got, _, _ := resolve.All(symbols(), c, 1, d, 2)
		twice, _, _ := resolve.All(symbols(), c, 1, d, 2)
		for _, s := range twice {
			scribble(s.Clause)
		}
		clear(twice[:cap(twice)])
		scribble(c)
		scribble(d)
		if !slices.EqualFunc(got, kept, sameStep) || ok && !same(first, keptFirst) {
			t.Fatalf("R4: of %v: a result shares memory: %v, %v", pair, got, first)
		}
	}
}

// Each list of a result is overwritten in turn, and appended to: the others must not notice.
func TestListsApart(t *testing.T) {
	lists := func(steps []api.Step) [][]int {
		var out [][]int
		for _, s := range steps {
			out = append(out, rowsOf(s.Clause)...)
		}
		return out
	}
	c := chance(30)
	c.validPairs(1500, func(first, second api.Clause) {
		want, _, _ := resolve.All(symbols(), first, 1, second, 2)
		wanted := lists(want)
		for i := range wanted {
			got, _, _ := resolve.All(symbols(), first, 1, second, 2)
			rs := lists(got)
			r := rs[i][:cap(rs[i])]
			for k := range r {
				r[k] = -777
			}
			for k := range rs {
				if k != i && !slices.Equal(rs[k], wanted[k]) {
					t.Fatalf("R4: All(%v, %v): lists %d and %d share memory", first, second, i, k)
				}
			}
		}
		for i := range want {
			got, _, _ := resolve.All(symbols(), first, 1, second, 2)
			u := got[i].Clause
			clear(u.Lits[:cap(u.Lits)])
			clear(u.Tuples[:cap(u.Tuples)])
			clear(u.Conds[:cap(u.Conds)])
			for k := range got {
				if k != i && !same(got[k].Clause, want[k].Clause) {
					t.Fatalf("R4: All(%v, %v): steps %d and %d share memory", first, second, i, k)
				}
			}
		}
	})
}

// Run with -race, this also tells of calls that write what others read.
func TestCallsAtOnce(t *testing.T) {
	sig, some := symbols(), somePairs()
	var wanted [][]api.Step
	for _, pair := range some {
		steps, _, _ := resolve.All(sig, pair[0], 1, pair[1], 2)
		wanted = append(wanted, steps)
	}
	var joined sync.WaitGroup
	for range 8 {
		joined.Add(1)
		go func() {
			defer joined.Done()
			for i, pair := range some {
				got, _, _ := resolve.All(sig, pair[0], 1, pair[1], 2)
				if !slices.EqualFunc(got, wanted[i], sameStep) {
					t.Errorf("R5: at once: All of %v: %v; want %v", pair, got, wanted[i])
				}
				for _, s := range got {
					scribble(s.Clause)
				}
			}
		}()
	}
	joined.Wait()
}
