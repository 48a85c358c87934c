package resolve_test

import (
	"math"
	"slices"
	"testing"

	"quaere/api"
	"quaere/clause"
	"quaere/resolve"
)

// The codes of symbols().
const (
	eq = iota
	likes
	rains
	tall
	ann
	bob
	f
	g
	h
	sk
	between
	beyond // no symbol has this code
)

// symbols has predicates before and behind the functions, and all kinds and arities.
func symbols() []api.Sym {
	return []api.Sym{
		eq:      {Name: "=", Kind: api.KindPred, Arity: 2, Weight: 1},
		likes:   {Name: "likes", Kind: api.KindPred, Arity: 2, Weight: 4},
		rains:   {Name: "rains", Kind: api.KindPred, Arity: 0, Weight: 3},
		tall:    {Name: "tall", Kind: api.KindPred, Arity: 1, Weight: 2},
		ann:     {Name: "ann", Kind: api.KindFun, Arity: 0, Weight: 1},
		bob:     {Name: "bob", Kind: api.KindFun, Arity: 0, Weight: 6},
		f:       {Name: "f", Kind: api.KindFun, Arity: 1, Weight: 1},
		g:       {Name: "g", Kind: api.KindSkolem, Arity: 2, Weight: 3},
		h:       {Name: "h", Kind: api.KindFun, Arity: api.MaxArity, Weight: 5},
		sk:      {Name: "sk", Kind: api.KindSkolem, Arity: 0, Weight: api.MaxWeight},
		between: {Name: "between", Kind: api.KindPred, Arity: 3, Weight: 1},
	}
}

// x is the code of the variable v.
func x(v int) int {
	return -1 - v
}

func is(atom ...int) api.Lit {
	return api.Lit{Atom: atom}
}

func not(atom ...int) api.Lit {
	return api.Lit{Neg: true, Atom: atom}
}

func row(codes ...int) []int {
	return codes
}

func lits(ls ...api.Lit) api.Clause {
	return api.Clause{Lits: ls}
}

func tuples(rs ...[]int) api.Clause {
	return api.Clause{Tuples: rs}
}

func conds(ls ...api.Lit) api.Clause {
	return api.Clause{Conds: ls}
}

// whole puts the Lits, Tuples and Conds of several clauses together.
func whole(cs ...api.Clause) api.Clause {
	var out api.Clause
	for _, c := range cs {
		out.Lits = append(out.Lits, c.Lits...)
		out.Tuples = append(out.Tuples, c.Tuples...)
		out.Conds = append(out.Conds, c.Conds...)
	}
	return out
}

// one is a term of n codes that ends with the code last.
func one(n, last int) []int {
	return slices.Concat(slices.Repeat([]int{f}, n-1), []int{last})
}

// tower is an atom of n codes.
func tower(n, last int) api.Lit {
	return is(slices.Concat([]int{tall}, one(n-1, last))...)
}

func sameLit(l, m api.Lit) bool {
	return l.Neg == m.Neg && slices.Equal(l.Atom, m.Atom)
}

func sameRow(r, s []int) bool {
	return slices.Equal(r, s)
}

func same(c, d api.Clause) bool {
	return slices.EqualFunc(c.Lits, d.Lits, sameLit) && slices.EqualFunc(c.Tuples, d.Tuples, sameRow) && slices.EqualFunc(c.Conds, d.Conds, sameLit)
}

func isEmpty(c api.Clause) bool {
	return len(c.Lits) == 0 && len(c.Tuples) == 0 && len(c.Conds) == 0
}

func sameStep(s, u api.Step) bool {
	return s.Rule == u.Rule && s.A == u.A && s.I == u.I && s.Side == u.Side && s.B == u.B && s.J == u.J && s.At == u.At && same(s.Clause, u.Clause)
}

func becomes(t *testing.T, what string, c api.Clause, i int, d api.Clause, j int, want api.Clause) {
	t.Helper()
	if got, ok, e := resolve.One(symbols(), c, i, d, j); !ok || e != api.OK || !same(got, want) {
		t.Errorf("P13.1 %s: One(%v, %d, %v, %d) = %v, %t, %d; want %v", what, c, i, d, j, got, ok, e, want)
	}
}

// fails looks for false, with an error or without one.
func fails(t *testing.T, what string, c api.Clause, i int, d api.Clause, j int, want api.Errno) {
	t.Helper()
	if got, ok, e := resolve.One(symbols(), c, i, d, j); ok || e != want || !isEmpty(got) {
		t.Errorf("P13.1 %s: One(%v, %d, %v, %d) = %v, %t, %d; want false, %d", what, c, i, d, j, got, ok, e, want)
	}
}

func TestOne(t *testing.T) {
	becomes(t, "a fact and a denial", lits(is(tall, ann)), 0, lits(not(tall, ann)), 0, api.Clause{})
	becomes(t, "a denial and a fact", lits(not(tall, ann)), 0, lits(is(tall, ann)), 0, api.Clause{})
	becomes(t, "without arguments", lits(is(rains)), 0, lits(not(rains), is(tall, ann)), 0, lits(is(tall, ann)))
	becomes(t, "a fact and a rule", lits(is(tall, ann)), 0, lits(is(likes, x(0), bob), not(tall, x(0))), 1, lits(is(likes, ann, bob)))
	becomes(t, "a rule and a fact", lits(is(likes, x(0), bob), not(tall, x(0))), 1, lits(is(tall, ann)), 0, lits(is(likes, ann, bob)))
	becomes(t, "terms on both sides", lits(is(likes, x(0), f, x(0)), is(tall, x(0))), 0, lits(not(likes, ann, x(0)), is(tall, x(0))), 0, lits(is(tall, ann), is(tall, f, ann)))
	becomes(t, "two rules", lits(is(tall, f, x(0)), not(tall, x(0))), 0, lits(not(tall, x(3)), is(likes, x(3), x(5))), 0, lits(not(tall, x(0)), is(likes, f, x(0), x(1))))
	becomes(t, "equations", lits(is(eq, f, x(0), x(0))), 0, lits(not(eq, f, ann, x(1)), is(tall, x(1))), 0, lits(is(tall, ann)))
	becomes(t, "a predicate behind the functions", lits(not(between, x(0), x(1), x(0))), 0, lits(is(between, x(0), ann, x(1)), is(likes, x(0), x(1))), 0, lits(is(likes, x(0), x(0))))
	becomes(t, "functions of all arities", lits(is(tall, h, x(0), g, x(1), x(0), f, x(2))), 0, lits(not(tall, h, sk, x(0), x(1)), is(likes, x(0), x(1))), 0, lits(is(likes, g, x(0), sk, f, x(1))))
	becomes(t, "what is trivial", lits(is(tall, x(0)), is(rains)), 0, lits(not(tall, x(0)), not(rains)), 0, lits(is(rains), not(rains)))
	becomes(t, "an equation between equals", lits(is(tall, x(0)), is(eq, x(0), ann)), 0, lits(not(tall, ann)), 0, lits(is(eq, ann, ann)))
}

func TestWhatStays(t *testing.T) {
	c := whole(lits(is(rains), is(tall, x(1)), is(likes, x(1), x(0))), tuples(row(x(0), x(1)), row(x(1), x(2))), conds(is(likes, x(2), ann)))
	d := whole(lits(is(tall, x(0)), not(rains), not(tall, x(0)), is(tall, bob)), tuples(row(x(0), f, x(1))), conds(not(rains), is(tall, x(1))))
	becomes(t, "the second Lit with the third one", c, 1, d, 2, whole(
		lits(is(rains), is(likes, x(0), x(1)), is(tall, x(0)), not(rains), is(tall, bob)),
		tuples(row(x(1), x(0)), row(x(0), x(2)), row(x(0), f, x(3))),
		conds(is(likes, x(2), ann), not(rains), is(tall, x(3)))))
	becomes(t, "the other way round", d, 2, c, 1, whole(
		lits(is(tall, x(0)), not(rains), is(tall, bob), is(rains), is(likes, x(0), x(1))),
		tuples(row(x(0), f, x(2)), row(x(1), x(0)), row(x(0), x(3))),
		conds(not(rains), is(tall, x(2)), is(likes, x(3), ann))))
	becomes(t, "the first Lit with the second one", c, 0, d, 1, whole(
		lits(is(tall, x(0)), is(likes, x(0), x(1)), is(tall, x(2)), not(tall, x(2)), is(tall, bob)),
		tuples(row(x(1), x(0)), row(x(0), x(3)), row(x(2), f, x(4))),
		conds(is(likes, x(3), ann), not(rains), is(tall, x(4)))))
	becomes(t, "only Tuples and Conds", whole(lits(is(rains)), tuples(row(x(7)))), 0, whole(lits(not(rains)), conds(is(tall, x(4)))), 0, whole(tuples(row(x(0))), conds(is(tall, x(1)))))
	becomes(t, "an empty Tuple", whole(lits(is(rains)), tuples(nil)), 0, lits(not(rains)), 0, tuples(nil))
	becomes(t, "Conds stay beside opposite Lits", whole(lits(is(tall, ann)), conds(not(tall, x(0)))), 0, whole(lits(not(tall, x(0))), conds(is(tall, x(0)))), 0, conds(not(tall, x(0)), is(tall, ann)))
}

func TestNormal(t *testing.T) {
	becomes(t, "equal Lits", lits(is(tall, ann), is(rains), not(tall, ann)), 0, lits(is(rains), not(tall, x(0)), not(tall, x(0))), 1, lits(is(rains), not(tall, ann)))
	becomes(t, "equal Tuples", whole(lits(is(likes, x(0), x(1))), tuples(row(x(1)), row(ann))), 0, whole(lits(not(likes, ann, x(0))), tuples(row(x(0)))), 0, tuples(row(x(0)), row(ann)))
	becomes(t, "equal Conds", whole(lits(is(tall, x(0))), conds(is(tall, x(0)), not(tall, x(0)))), 0, whole(lits(not(tall, f, x(0))), conds(not(tall, f, x(0)))), 0, conds(is(tall, f, x(0)), not(tall, f, x(0))))
	becomes(t, "equal in different lists", whole(lits(is(rains), is(tall, x(0))), conds(is(tall, x(0)))), 0, lits(not(rains)), 0, whole(lits(is(tall, x(0))), conds(is(tall, x(0)))))
	becomes(t, "variables by their first place", whole(lits(is(likes, x(5), x(9)), is(likes, x(9), x(5))), tuples(row(x(2)))), 0, whole(lits(not(likes, x(4), x(2)), is(likes, x(2), x(1))), conds(is(tall, x(3)))), 0,
		whole(lits(is(likes, x(0), x(1)), is(likes, x(0), x(2))), tuples(row(x(3))), conds(is(tall, x(4)))))
	becomes(t, "a variable that is gone", lits(is(tall, x(0)), is(likes, x(1), x(2))), 0, lits(not(tall, x(0))), 0, lits(is(likes, x(0), x(1))))
	// Lits that differ by their variables alone are not equal.
	becomes(t, "variants", lits(is(rains), is(tall, x(0))), 0, lits(not(rains), is(tall, x(0))), 0, lits(is(tall, x(0)), is(tall, x(1))))
}

// The same number in both clauses is not the same variable.
func TestVariablesApart(t *testing.T) {
	becomes(t, "a variable and a term with it", lits(is(tall, x(0)), is(likes, x(0), ann)), 0, lits(not(tall, f, x(0))), 0, lits(is(likes, f, x(0), ann)))
	becomes(t, "exchanged", lits(is(likes, x(0), x(1)), is(tall, x(0))), 0, lits(not(likes, x(1), x(0)), is(tall, x(0))), 0, lits(is(tall, x(0)), is(tall, x(1))))
	step := lits(not(tall, x(0)), is(tall, f, x(0)))
	becomes(t, "with itself", step, 1, step, 0, lits(not(tall, x(0)), is(tall, f, f, x(0))))
	becomes(t, "with itself, the other way round", step, 0, step, 1, lits(is(tall, f, f, x(0)), not(tall, x(0))))
	becomes(t, "a Tuple's variable", whole(lits(is(rains)), tuples(row(x(0)))), 0, whole(lits(not(rains)), tuples(row(x(0)))), 0, tuples(row(x(0)), row(x(1))))
	becomes(t, "a Cond's variable", whole(lits(is(rains), is(tall, x(0)))), 0, whole(lits(not(rains)), conds(is(tall, x(0)))), 0, whole(lits(is(tall, x(0))), conds(is(tall, x(1)))))
	fails(t, "a variable of c in itself", lits(is(likes, x(0), x(0))), 0, lits(not(likes, x(0), f, x(0))), 0, api.OK)
	fails(t, "a variable of d in itself", lits(is(likes, x(0), f, x(0))), 0, lits(not(likes, x(0), x(0))), 0, api.OK)
	fails(t, "in itself by way of another one", lits(is(between, x(0), x(1), x(0))), 0, lits(not(between, f, x(0), x(0), x(0))), 0, api.OK)
}

func TestNothing(t *testing.T) {
	fails(t, "both without Neg", lits(is(tall, ann)), 0, lits(is(tall, ann)), 0, api.OK)
	fails(t, "both with Neg", lits(not(tall, ann)), 0, lits(not(tall, ann)), 0, api.OK)
	fails(t, "different predicates", lits(is(likes, x(0), x(1))), 0, lits(not(eq, x(0), x(1))), 0, api.OK)
	fails(t, "different predicates with and without arguments", lits(is(rains)), 0, lits(not(tall, x(0))), 0, api.OK)
	fails(t, "different constants", lits(is(tall, ann)), 0, lits(not(tall, bob)), 0, api.OK)
	fails(t, "different functions", lits(is(tall, f, x(0))), 0, lits(not(tall, g, x(0), x(0))), 0, api.OK)
	fails(t, "the second argument", lits(is(likes, x(0), ann)), 0, lits(not(likes, x(0), bob)), 0, api.OK)
	fails(t, "one variable, two constants", lits(is(likes, x(0), x(0))), 0, lits(not(likes, ann, bob)), 0, api.OK)
	fails(t, "an equation's sides are not exchanged", lits(is(eq, ann, bob)), 0, lits(not(eq, bob, ann)), 0, api.OK)
	fails(t, "another Lit would do", lits(is(tall, ann), is(rains)), 1, lits(not(tall, ann)), 0, api.OK)
}

func TestIndexes(t *testing.T) {
	c := lits(is(tall, ann), is(rains), is(tall, bob))
	d := lits(not(rains), not(tall, bob))
	becomes(t, "the last of each", c, 2, d, 1, lits(is(tall, ann), is(rains), not(rains)))
	becomes(t, "one in the middle, and the first one", c, 1, d, 0, lits(is(tall, ann), is(tall, bob), not(tall, bob)))
	for _, k := range []int{math.MinInt, -2, -1, 3, 4, math.MaxInt} {
		fails(t, "the first index", c, k, d, 0, api.ErrResolveForm)
		fails(t, "both indexes", c, k, d, k, api.ErrResolveForm)
	}
	for _, k := range []int{math.MinInt, -1, 2, 3, math.MaxInt} {
		fails(t, "the second index", c, 1, d, k, api.ErrResolveForm)
	}
	for _, none := range []api.Clause{{}, {Lits: []api.Lit{}}, tuples(row(ann)), conds(is(rains))} {
		for _, k := range []int{-1, 0, 1} {
			fails(t, "no Lits in c", none, k, d, 0, api.ErrResolveForm)
			fails(t, "no Lits in d", c, 1, none, k, api.ErrResolveForm)
			fails(t, "no Lits", none, k, none, k, api.ErrResolveForm)
		}
	}
}

// with are clauses of a Lit and of a variable that stands there, in another Lit, in a Tuple or in a Cond.
func with(neg bool, v int) []api.Clause {
	l := api.Lit{Neg: neg, Atom: row(rains)}
	return []api.Clause{
		lits(l, is(tall, x(v))),
		lits(l, is(between, ann, f, x(v), x(0))),
		whole(lits(l), tuples(row(ann, x(v)))),
		whole(lits(l), tuples(row(x(0), f, x(v)))),
		whole(lits(l), conds(not(tall, x(v)))),
		whole(lits(l, is(tall, x(0))), conds(is(likes, x(v), bob))),
		whole(lits(l, is(tall, x(0))), tuples(row(x(v/2), x(v))), conds(is(likes, x(0), x(v/3)))),
	}
}

func TestFar(t *testing.T) {
	for v := range api.MaxVar + 1 {
		for w := range api.MaxVar + 1 {
			for i, c := range with(false, v) {
				d := with(true, w)[(i+v+w)%7]
				_, ok, e := resolve.One(symbols(), c, 0, d, 0)
				if want := v+1+w <= api.MaxVar; ok != want || (e == api.OK) != want || e != api.OK && e != api.ErrResolveFar {
					t.Errorf("P13.1: One(%v, %v): %t, %d; the greatest variable would be %d", c, d, ok, e, v+1+w)
				}
			}
		}
		for _, c := range with(true, v) {
			none := whole(lits(is(rains), is(tall, ann)))
			if _, ok, e := resolve.One(symbols(), none, 0, c, 0); !ok || e != api.OK {
				t.Errorf("P13.1: c without variables: One with %v: %t, %d", c, ok, e)
			}
			if _, ok, e := resolve.One(symbols(), c, 0, none, 0); !ok || e != api.OK {
				t.Errorf("P13.1: d without variables: One with %v: %t, %d", c, ok, e)
			}
		}
	}
	becomes(t, "the greatest that may be", lits(is(tall, x(11)), is(rains)), 0, lits(not(tall, x(11))), 0, lits(is(rains)))
	becomes(t, "the greatest that may be, behind none", lits(is(tall, ann), is(rains)), 0, lits(not(tall, x(23)), is(likes, x(23), x(22))), 0, lits(is(rains), is(likes, ann, x(0))))
	becomes(t, "the greatest that may be, without more", lits(is(tall, x(23)), is(tall, x(22))), 0, lits(not(tall, ann)), 0, lits(is(tall, x(0))))
	fails(t, "one more", lits(is(tall, x(11)), is(rains)), 0, lits(not(tall, x(12))), 0, api.ErrResolveFar)
	fails(t, "far, though the variable is gone afterwards", lits(is(tall, x(0)), is(rains)), 0, lits(not(tall, x(23))), 0, api.ErrResolveFar)
	fails(t, "far, though one variable is all", lits(is(tall, x(23))), 0, lits(not(tall, x(0))), 0, api.ErrResolveFar)
}

// long is a clause with as many Lits as there may be, the first one of them l.
func long(l api.Lit) api.Clause {
	return lits(l, is(tall, ann), is(tall, bob), is(likes, ann, bob), is(likes, bob, ann))
}

// What would be refused by two of the steps is told by the first of them.
func TestOrderOfSteps(t *testing.T) {
	high := func(l api.Lit) api.Clause { return whole(lits(l), tuples(row(x(api.MaxVar)))) }
	broken := lits(not(rains), is(tall))
	fails(t, "not valid, and the same Neg", lits(is(rains)), 0, lits(is(rains), is(tall)), 0, api.ErrResolveForm)
	fails(t, "not valid, and different predicates", broken, 0, lits(is(tall, ann)), 0, api.ErrResolveForm)
	fails(t, "not valid, and far", whole(broken, high(is(rains))), 0, high(is(rains)), 0, api.ErrResolveForm)
	fails(t, "not an index, and another one of the same Neg", lits(is(rains)), 1, lits(is(rains)), 0, api.ErrResolveForm)
	fails(t, "not an index, and far", high(is(rains)), 0, high(not(rains)), 1, api.ErrResolveForm)
	fails(t, "not an index, and long", long(is(rains)), 0, long(not(rains)), 5, api.ErrResolveForm)
	fails(t, "the same Neg, and far", high(is(rains)), 0, high(is(rains)), 0, api.OK)
	fails(t, "different predicates, and far", high(is(tall, ann)), 0, high(not(rains)), 0, api.OK)
	fails(t, "the same Neg, and long", long(is(rains)), 0, long(is(rains)), 0, api.OK)
	fails(t, "different predicates, and long", long(is(rains)), 0, long(not(tall, ann)), 0, api.OK)
	fails(t, "far, and not to be unified", high(is(tall, ann)), 0, high(not(tall, bob)), 0, api.ErrResolveFar)
	fails(t, "far, and a long unifier", whole(lits(is(likes, x(0), g, x(0), x(0))), tuples(row(x(23)))), 0, lits(not(slices.Concat(row(likes), one(24, ann), row(x(0)))...)), 0, api.ErrResolveFar)
	fails(t, "far, and long", whole(long(is(rains)), tuples(row(x(23)))), 0, whole(long(not(rains)), tuples(row(x(0)))), 0, api.ErrResolveFar)
	fails(t, "not to be unified, and long", long(is(tall, ann)), 0, long(not(tall, bob)), 0, api.OK)
	fails(t, "not to be unified, and Tuples of different numbers of terms", whole(lits(is(tall, ann)), tuples(row(ann))), 0, whole(lits(not(tall, bob)), tuples(nil)), 0, api.OK)
	fails(t, "not to be unified behind what grows too long", lits(is(between, x(0), g, x(0), x(0), ann)), 0, lits(not(slices.Concat(row(between), one(24, ann), row(x(0), bob))...)), 0, api.OK)
}

// A Term of the unifier that is too long is refused, though nothing of it would be left.
func TestLongUnifier(t *testing.T) {
	twice := lits(is(likes, x(0), g, x(0), x(0)))
	becomes(t, "a Term of one code less", twice, 0, lits(not(slices.Concat(row(likes), one(23, ann), row(x(0)))...)), 0, api.Clause{})
	fails(t, "a Term of one code more", twice, 0, lits(not(slices.Concat(row(likes), one(24, ann), row(x(0)))...)), 0, api.ErrResolveLong)
	thrice := lits(is(likes, x(0), h, x(0), x(0), ann))
	becomes(t, "a Term of just MaxTerm codes", thrice, 0, lits(not(slices.Concat(row(likes), one(23, ann), row(x(0)))...)), 0, api.Clause{})
	fails(t, "the other way round", lits(not(slices.Concat(row(likes), one(24, ann), row(x(0)))...)), 0, thrice, 0, api.ErrResolveLong)
	for n := 1; n <= 7; n++ {
		c, d := chain(n)
		// The last Term has 2 to the power of n + 1 codes, less one.
		if n <= 4 {
			becomes(t, "Terms that double", c, 0, d, 0, api.Clause{})
		} else {
			fails(t, "Terms that double", c, 0, d, 0, api.ErrResolveLong)
		}
	}
}

// chain gives two facts by which each variable of n of the first one must become twice the variable before it.
func chain(n int) (c, d api.Clause) {
	left, right := row(tall), row(tall)
	for v := range n {
		left = append(left, g, x(v+1), g, g, x(v), x(v))
		right = append(right, g, x(v), g, x(v))
	}
	return lits(is(append(left, ann)...)), lits(not(append(right, ann)...))
}

func TestLongRows(t *testing.T) {
	d := func(n int) api.Clause { return lits(not(slices.Concat(row(tall), one(n, ann))...)) }
	pair := slices.Concat(one(24, ann), one(24, ann))
	for _, k := range []struct {
		what string
		part func(r ...int) api.Clause
	}{
		{"a Lit", func(r ...int) api.Clause { return lits(is(slices.Concat(row(likes), r)...)) }},
		{"a Lit behind others", func(r ...int) api.Clause { return lits(is(rains), not(slices.Concat(row(likes), r)...)) }},
		{"an equation", func(r ...int) api.Clause { return lits(is(slices.Concat(row(eq), r)...)) }},
		{"a Tuple", func(r ...int) api.Clause { return tuples(r) }},
		{"a Tuple behind another one", func(r ...int) api.Clause { return tuples(row(ann, bob), r) }},
		{"a Cond", func(r ...int) api.Clause { return conds(not(slices.Concat(row(likes), r)...)) }},
		{"a Cond behind another one", func(r ...int) api.Clause { return conds(is(rains), is(slices.Concat(row(likes), r)...)) }},
	} {
		becomes(t, k.what+" of just MaxTerm codes", whole(lits(is(tall, x(0))), k.part(x(0), x(0))), 0, d(24), 0, k.part(pair...))
		fails(t, k.what+" of one more", whole(lits(is(tall, x(0))), k.part(x(0), f, x(0))), 0, d(24), 0, api.ErrResolveLong)
		fails(t, k.what+" of two more", whole(lits(is(tall, x(0))), k.part(x(0), x(0))), 0, d(25), 0, api.ErrResolveLong)
		fails(t, k.what+" of one more, of the other clause", d(24), 0, whole(lits(is(tall, x(0))), k.part(f, x(0), x(0))), 0, api.ErrResolveLong)
	}
	most := slices.Repeat(row(x(0)), api.MaxTerm)
	fails(t, "the longest Tuple", whole(lits(is(tall, x(0))), tuples(most)), 0, d(47), 0, api.ErrResolveLong)
	becomes(t, "the longest Tuple of constants", whole(lits(is(tall, x(0))), tuples(most)), 0, d(1), 0, tuples(slices.Repeat(row(ann), api.MaxTerm)))
}

func TestManyParts(t *testing.T) {
	some := []api.Lit{is(tall, ann), is(tall, bob), is(tall, sk), is(likes, ann, bob), is(likes, bob, ann), not(tall, ann), not(tall, bob), not(tall, sk)}
	plus := func(n int) api.Clause { return lits(append([]api.Lit{is(rains)}, some[:n]...)...) }
	minus := func(n int) api.Clause { return lits(append([]api.Lit{not(rains)}, some[8-n:]...)...) }
	for n := range 5 {
		for m := range 5 {
			if n+m > api.MaxLits {
				fails(t, "more Lits", plus(n), 0, minus(m), 0, api.ErrResolveLong)
			} else {
				becomes(t, "Lits", plus(n), 0, minus(m), 0, lits(append(slices.Clone(some[:n]), some[8-m:]...)...))
			}
			// They are counted ahead of Normal.
			k := min(n, m)
			if n+m > api.MaxLits {
				fails(t, "more Lits, equal ones", plus(n), 0, whole(lits(not(rains)), lits(some[:m]...)), 0, api.ErrResolveLong)
			} else if k == m {
				becomes(t, "equal Lits", plus(n), 0, whole(lits(not(rains)), lits(some[:m]...)), 0, lits(some[:n]...))
			}
		}
	}
	rows := [][]int{row(ann), row(bob), row(sk), row(f, ann), row(f, bob), row(f, sk)}
	for n := range api.MaxTuples + 1 {
		for m := range api.MaxTuples + 1 {
			c, d := whole(lits(is(rains)), tuples(rows[:n]...)), whole(lits(not(rains)), tuples(rows[6-m:]...))
			v, w := whole(lits(is(rains)), conds(some[:n]...)), whole(lits(not(rains)), conds(some[8-m:]...))
			if n+m > api.MaxTuples {
				fails(t, "more Tuples", c, 0, d, 0, api.ErrResolveLong)
				fails(t, "more Tuples, equal ones", c, 0, whole(lits(not(rains)), tuples(slices.Repeat([][]int{rows[0]}, m)...)), 0, api.ErrResolveLong)
				fails(t, "more Conds", v, 0, w, 0, api.ErrResolveLong)
				fails(t, "more Conds, equal ones", v, 0, whole(lits(not(rains)), conds(slices.Repeat(some[:1], m)...)), 0, api.ErrResolveLong)
			} else {
				becomes(t, "Tuples", c, 0, d, 0, tuples(append(slices.Clone(rows[:n]), rows[6-m:]...)...))
				becomes(t, "Conds", v, 0, w, 0, conds(append(slices.Clone(some[:n]), some[8-m:]...)...))
			}
		}
	}
}

func TestTuplesOfDifferentWidths(t *testing.T) {
	some := [][]int{nil, row(ann), row(ann, x(0)), row(x(0), f, x(0), bob)}
	for n, r := range some {
		for m, s := range some {
			c, d := whole(lits(is(rains)), tuples(r)), whole(lits(not(rains)), tuples(s))
			if n != m {
				fails(t, "different numbers of terms", c, 0, d, 0, api.ErrResolveLong)
			} else if _, ok, e := resolve.One(symbols(), c, 0, d, 0); !ok || e != api.OK {
				t.Errorf("P13.1 as many terms: One(%v, %v): %t, %d", c, d, ok, e)
			}
		}
		becomes(t, "Tuples of c alone", whole(lits(is(rains)), tuples(r)), 0, lits(not(rains)), 0, tuples(r))
		becomes(t, "Tuples of d alone", lits(is(rains)), 0, whole(lits(not(rains)), tuples(r)), 0, tuples(r))
	}
}

func TestManyCodes(t *testing.T) {
	for n := 42; n <= 46; n++ {
		c := lits(tower(49, ann), is(tall, x(0)), tower(49, bob))
		d := whole(lits(not(rains), not(tall, x(0)), tower(49, x(0))), conds(tower(49, x(1))))
		last := tuples(one(n-1, sk))
		want := whole(lits(tower(49, ann), tower(49, bob), not(rains), tower(49, x(0))), last, conds(tower(49, x(1))))
		if size := 4*49 + 1 + n - 1; size <= api.MaxCodes {
			becomes(t, "codes", whole(c, last), 1, d, 1, want)
			becomes(t, "codes of d", c, 1, whole(d, last), 1, want)
		} else {
			fails(t, "too many codes", whole(c, last), 1, d, 1, api.ErrResolveLong)
			fails(t, "too many codes of d", c, 1, whole(d, last), 1, api.ErrResolveLong)
		}
		// They are counted ahead of Normal, too.
		equal := whole(lits(not(tall, x(0)), tower(49, ann), tower(49, bob)), tuples(one(n, sk)))
		twice := lits(tower(49, ann), is(tall, x(0)), tower(49, bob))
		if size := 4*49 + n; size <= api.MaxCodes {
			becomes(t, "codes of equal Lits", twice, 1, equal, 0, whole(lits(tower(49, ann), tower(49, bob)), tuples(one(n, sk))))
		} else {
			fails(t, "too many codes of equal Lits", twice, 1, equal, 0, api.ErrResolveLong)
		}
	}
	// What is resolved is not counted, what it puts for variables is.
	far := lits(tower(49, x(0)), tower(49, bob), tower(49, ann), tower(44, ann))
	becomes(t, "the longest with the longest", far, 2, lits(not(tower(49, ann).Atom...), tower(49, sk), tower(49, ann)), 0, lits(tower(49, x(0)), tower(49, bob), tower(44, ann), tower(49, sk), tower(49, ann)))
	grows := func(n, last int) api.Clause {
		l := tower(n, last)
		return whole(lits(l, not(l.Atom...)), conds(l, not(l.Atom...)))
	}
	for n := 20; n <= 23; n++ {
		c, d := whole(lits(is(tall, x(0))), grows(26, x(0)), conds(tower(n, x(0)))), lits(not(slices.Concat(row(tall), one(24, ann))...))
		if n <= 21 {
			becomes(t, "codes that are put", c, 0, d, 0, whole(grows(49, ann), conds(tower(n+23, ann))))
		} else {
			fails(t, "too many codes that are put", c, 0, d, 0, api.ErrResolveLong)
		}
	}
}

// makes holds All against the steps that are to come and how many are to be left out.
func makes(t *testing.T, what string, c api.Clause, a int, d api.Clause, b int, left int, want ...api.Step) {
	t.Helper()
	got, n, e := resolve.All(symbols(), c, a, d, b)
	if e != api.OK || n != left || !slices.EqualFunc(got, want, sameStep) {
		t.Errorf("P13.2 %s: All(%v, %d, %v, %d) = %v, %d, %d; want %v, %d", what, c, a, d, b, got, n, e, want, left)
	}
}

func step(a, i, b, j int, c api.Clause) api.Step {
	return api.Step{Rule: api.RuleResolve, A: a, I: i, B: b, J: j, Clause: c}
}

func TestAll(t *testing.T) {
	makes(t, "a fact and a denial", lits(is(tall, ann)), 3, lits(not(tall, x(0))), 5, 0, step(3, 0, 5, 0, api.Clause{}))
	makes(t, "a denial and a fact", lits(not(tall, x(0))), 5, lits(is(tall, ann)), 3, 0, step(5, 0, 3, 0, api.Clause{}))
	makes(t, "a fact and a rule", lits(is(tall, bob)), 3, lits(is(tall, f, x(0)), not(likes, x(0), bob), not(tall, x(0))), 5, 0)
	makes(t, "a fact and a rule's greatest Lit", lits(is(likes, bob, ann)), 3, lits(is(tall, f, x(0)), not(likes, bob, x(0)), not(tall, x(0))), 5, 0, step(3, 0, 5, 1, lits(is(tall, f, ann), not(tall, ann))))
	makes(t, "a rule's greatest Lit and a denial", lits(not(tall, x(0)), is(tall, f, x(0))), 0, lits(is(rains), not(tall, f, f, x(0))), 9, 0, step(0, 1, 9, 1, lits(not(tall, f, x(0)), is(rains))))
	makes(t, "not by what is not the greatest", lits(is(likes, x(0), bob), is(tall, x(0))), 1, lits(not(tall, ann)), 2, 0)
	makes(t, "not by what is not the greatest, the other way round", lits(not(tall, ann)), 2, lits(is(likes, x(0), bob), is(tall, x(0))), 1, 0)
	makes(t, "nothing that resolves", lits(is(tall, ann)), 1, lits(not(tall, bob)), 2, 0)
	makes(t, "the same Neg", lits(is(tall, ann)), 1, lits(is(tall, ann)), 1, 0)
	makes(t, "nothing at all", api.Clause{}, 1, api.Clause{}, 2, 0)
	makes(t, "no Lits in c", tuples(row(ann)), 1, lits(is(rains)), 2, 0)
	makes(t, "no Lits in d", lits(is(rains)), 1, conds(not(rains)), 2, 0)
	for _, a := range []int{math.MinInt, -2, -1, 0, 199, 200, math.MaxInt} {
		for _, b := range []int{math.MinInt, -1, 0, 7, 1000, math.MaxInt} {
			makes(t, "any numbers", whole(lits(is(rains)), tuples(row(x(3)))), a, lits(not(rains)), b, 0, step(a, 0, b, 0, tuples(row(x(0)))))
		}
	}
}

// Lits with variables of their own: none is more than another one.
func TestOrderOfAll(t *testing.T) {
	c := lits(is(tall, x(0)), is(likes, x(1), x(2)), is(tall, f, x(3)))
	d := lits(not(tall, x(0)), not(tall, f, x(1)), not(likes, ann, x(2)))
	makes(t, "one after the other", c, 4, d, 6, 0,
		step(4, 0, 6, 0, lits(is(likes, x(0), x(1)), is(tall, f, x(2)), not(tall, f, x(3)), not(likes, ann, x(4)))),
		step(4, 0, 6, 1, lits(is(likes, x(0), x(1)), is(tall, f, x(2)), not(tall, x(3)), not(likes, ann, x(4)))),
		step(4, 1, 6, 2, lits(is(tall, x(0)), is(tall, f, x(1)), not(tall, x(2)), not(tall, f, x(3)))),
		step(4, 2, 6, 0, lits(is(tall, x(0)), is(likes, x(1), x(2)), not(tall, f, x(3)), not(likes, ann, x(4)))),
		step(4, 2, 6, 1, lits(is(tall, x(0)), is(likes, x(1), x(2)), not(tall, x(3)), not(likes, ann, x(4)))))
	makes(t, "the other way round", d, 6, c, 4, 0,
		step(6, 0, 4, 0, lits(not(tall, f, x(0)), not(likes, ann, x(1)), is(likes, x(2), x(3)), is(tall, f, x(4)))),
		step(6, 0, 4, 2, lits(not(tall, f, x(0)), not(likes, ann, x(1)), is(tall, x(2)), is(likes, x(3), x(4)))),
		step(6, 1, 4, 0, lits(not(tall, x(0)), not(likes, ann, x(1)), is(likes, x(2), x(3)), is(tall, f, x(4)))),
		step(6, 1, 4, 2, lits(not(tall, x(0)), not(likes, ann, x(1)), is(tall, x(2)), is(likes, x(3), x(4)))),
		step(6, 2, 4, 1, lits(not(tall, x(0)), not(tall, f, x(1)), is(tall, x(2)), is(tall, f, x(3)))))
	both := lits(is(tall, bob), is(rains), is(tall, bob))
	makes(t, "a Lit that is the greatest twice", both, 1, lits(not(tall, bob)), 2, 0, step(1, 0, 2, 0, lits(is(rains), is(tall, bob))), step(1, 2, 2, 0, lits(is(tall, bob), is(rains))))
}

func TestTrivialLeftOut(t *testing.T) {
	both := []int{likes, x(0), x(1), likes, x(1), x(0)}
	makes(t, "opposite Lits", lits(is(both[:3]...), is(both[3:]...)), 1, lits(not(both[:3]...), not(both[3:]...)), 2, 0)
	makes(t, "one of two", lits(is(tall, x(0)), is(likes, ann, bob)), 1, lits(not(tall, x(0)), not(likes, ann, bob)), 2, 0, step(1, 1, 2, 1, lits(is(tall, x(0)), not(tall, x(1)))))
	makes(t, "an equation between equals", lits(is(likes, bob, x(0)), is(eq, x(0), ann)), 1, lits(not(likes, bob, ann)), 2, 0)
	makes(t, "an equation between equals, denied", lits(is(likes, bob, x(0)), not(eq, x(0), ann)), 1, lits(not(likes, bob, ann)), 2, 0, step(1, 0, 2, 0, lits(not(eq, ann, ann))))
	makes(t, "opposite Conds", whole(lits(is(rains)), conds(is(tall, ann))), 1, whole(lits(not(rains)), conds(not(tall, ann))), 2, 0, step(1, 0, 2, 0, conds(is(tall, ann), not(tall, ann))))
}

func TestLeft(t *testing.T) {
	high := lits(is(tall, ann), is(tall, x(23)))
	makes(t, "far", high, 1, lits(not(tall, x(0))), 2, 2)
	makes(t, "far, also where nothing could be unified", high, 1, lits(not(tall, bob), not(tall, x(0))), 2, 4)
	makes(t, "far, but another predicate", high, 1, lits(not(likes, x(0), x(0))), 2, 0)
	makes(t, "far, but the same Neg", high, 1, lits(is(tall, x(0))), 2, 0)
	makes(t, "far, but for the Lits that are not the greatest", lits(is(tall, bob), is(likes, x(23), ann), is(tall, x(23))), 1, lits(not(tall, x(0))), 2, 1)
	rows := tuples(row(x(0), x(0)))
	deep := not(slices.Concat(row(tall), one(25, ann))...)
	makes(t, "long, and one that is not", whole(lits(is(tall, x(0)), is(likes, x(1), x(2))), rows), 1, lits(deep, not(likes, x(0), x(0))), 2, 1,
		step(1, 1, 2, 1, whole(lits(is(tall, x(0)), deep), rows)))
	makes(t, "a long unifier", lits(is(likes, x(0), g, x(0), x(0))), 1, lits(not(slices.Concat(row(likes), one(24, ann), row(x(0)))...)), 2, 1)
	makes(t, "too many Lits", long(is(rains)), 1, long(not(rains)), 2, 0)
	tops := lits(is(tall, x(0)), is(tall, x(1)), is(tall, x(2)), is(tall, x(3)))
	makes(t, "too many Lits, each with each", tops, 1, lits(not(tall, x(0)), not(tall, x(1)), not(tall, x(2)), is(tall, x(3))), 2, 12)
	makes(t, "Tuples of different numbers of terms", whole(lits(is(rains)), tuples(nil)), 1, whole(lits(not(rains)), tuples(row(ann))), 2, 1)
	makes(t, "long ones, not to be unified", whole(lits(is(tall, ann)), tuples(nil)), 1, whole(lits(not(tall, bob)), tuples(row(ann))), 2, 0)
}

// wrongClauses are not valid, each for one reason.
func wrongClauses() []api.Clause {
	var out []api.Clause
	for _, atom := range [][]int{nil, {}, {x(0)}, {ann}, {beyond}, {math.MinInt}, {math.MaxInt}, {tall}, {tall, rains}, {tall, f}, {tall, x(24)}, {tall, ann, ann}, {rains, ann}, {eq, ann}, {likes, x(0), x(1), x(2)}, append(row(tall), one(49, ann)...)} {
		out = append(out, lits(is(rains), is(atom...)), conds(not(atom...)))
	}
	for _, r := range [][]int{{rains}, {f}, {g, ann}, {x(24)}, {beyond}, one(49, ann), {math.MinInt}, {math.MaxInt}} {
		out = append(out, tuples(r))
	}
	r := is(rains)
	return append(out,
		lits(r, r, r, r, r, r), conds(r, r, r, r), tuples(nil, nil, nil, nil),
		tuples(nil, row(ann)), tuples(row(ann, x(0)), row(x(0))),
		whole(lits(tower(49, ann), tower(49, ann), tower(49, ann), tower(49, ann)), conds(tower(45, ann))),
		lits(slices.Repeat([]api.Lit{r}, 100000)...))
}

// wrongSignatures are not valid.
func wrongSignatures() [][]api.Sym {
	twice := append(symbols(), symbols()[ann])
	wide := append(symbols(), api.Sym{Name: "z", Arity: api.MaxArity + 1, Weight: 1})
	light := append(symbols(), api.Sym{Name: "z"})
	kind := append(symbols(), api.Sym{Name: "z", Kind: 3, Weight: 1})
	return [][]api.Sym{nil, {}, twice, wide, light, kind, symbols()[1:], slices.Repeat(symbols(), 2)}
}

// refused looks for ErrResolveForm of both calls.
func refused(t *testing.T, what string, sig []api.Sym, c api.Clause, i int, d api.Clause, j int) {
	t.Helper()
	if got, ok, e := resolve.One(sig, c, i, d, j); ok || e != api.ErrResolveForm || !isEmpty(got) {
		t.Errorf("P13.1 %s: One: %v, %t, %d", what, got, ok, e)
	}
	if got, n, e := resolve.All(sig, c, i, d, j); len(got) > 0 || n != 0 || e != api.ErrResolveForm {
		t.Errorf("P13.2 %s: All: %v, %d, %d", what, got, n, e)
	}
}

func TestWrongClauses(t *testing.T) {
	right := whole(lits(is(rains), not(rains)), tuples(row(x(0))))
	for _, wrong := range wrongClauses() {
		if clause.May(symbols(), wrong) {
			t.Fatalf("%v is valid", wrong)
		}
		for _, k := range []int{-1, 0, 1} {
			refused(t, "c", symbols(), wrong, k, right, 0)
			refused(t, "d", symbols(), right, 1, wrong, k)
			refused(t, "both", symbols(), wrong, k, wrong, k)
			refused(t, "beside nothing", symbols(), wrong, k, api.Clause{}, 0)
			refused(t, "behind nothing", symbols(), api.Clause{}, 0, wrong, k)
		}
	}
}

func TestWrongSignatures(t *testing.T) {
	for _, sig := range wrongSignatures() {
		for _, c := range []api.Clause{{}, lits(is(rains)), lits(not(tall, ann)), tuples(nil), conds(is(rains)), wrongClauses()[0]} {
			for _, d := range []api.Clause{{}, lits(not(rains)), lits(is(tall, x(0))), tuples(row(x(0)))} {
				refused(t, "a signature", sig, c, 0, d, 0)
			}
		}
	}
}
