package subsume_test

import (
	"math"
	"slices"
	"testing"

	"quaere/api"
	"quaere/point"
	"quaere/subsume"
)

// The codes of symbols().
const (
	eq = iota
	likes
	rains
	tall
	ann
	bob
	f
	g
	sk
	between
	beyond // no symbol has this code
)

// symbols has predicates before and behind the functions, and all kinds and arities.
func symbols() []api.Sym {
	return []api.Sym{
		eq:      {Name: "=", Kind: api.KindPred, Arity: 2, Weight: 1},
		likes:   {Name: "likes", Kind: api.KindPred, Arity: 2, Weight: 4},
		rains:   {Name: "rains", Kind: api.KindPred, Arity: 0, Weight: 3},
		tall:    {Name: "tall", Kind: api.KindPred, Arity: 1, Weight: 2},
		ann:     {Name: "ann", Kind: api.KindFun, Arity: 0, Weight: 1},
		bob:     {Name: "bob", Kind: api.KindFun, Arity: 0, Weight: 6},
		f:       {Name: "f", Kind: api.KindFun, Arity: 1, Weight: 1},
		g:       {Name: "g", Kind: api.KindFun, Arity: 2, Weight: 3},
		sk:      {Name: "sk", Kind: api.KindSkolem, Arity: 0, Weight: api.MaxWeight},
		between: {Name: "between", Kind: api.KindPred, Arity: api.MaxArity, Weight: 1},
	}
}

// x is the code of the variable v.
func x(v int) int {
	return -1 - v
}

func is(atom ...int) api.Lit {
	return api.Lit{Atom: atom}
}

func not(atom ...int) api.Lit {
	return api.Lit{Neg: true, Atom: atom}
}

func row(codes ...int) []int {
	return codes
}

func lits(ls ...api.Lit) api.Clause {
	return api.Clause{Lits: ls}
}

func tuples(rs ...[]int) api.Clause {
	return api.Clause{Tuples: rs}
}

func conds(ls ...api.Lit) api.Clause {
	return api.Clause{Conds: ls}
}

// whole puts the Lits, Tuples and Conds of several clauses together.
func whole(cs ...api.Clause) api.Clause {
	var out api.Clause
	for _, c := range cs {
		out.Lits = append(out.Lits, c.Lits...)
		out.Tuples = append(out.Tuples, c.Tuples...)
		out.Conds = append(out.Conds, c.Conds...)
	}
	return out
}

// answers holds both calls against what they are to answer; want is not looked at where they are to answer false.
func answers(t *testing.T, what string, c, d api.Clause, wantOk bool, want []int) {
	t.Helper()
	got, ok, e := subsume.Places(symbols(), c, d)
	if e != api.OK || ok != wantOk || !slices.Equal(got, want) {
		t.Errorf("P10.1 %s: Places(%v, %v) = %v, %t, %d; want %v, %t", what, c, d, got, ok, e, want, wantOk)
	}
	if does, e := subsume.Does(symbols(), c, d); does != wantOk || e != api.OK {
		t.Errorf("P10.2 %s: Does(%v, %v) = %t, %d; want %t", what, c, d, does, e, wantOk)
	}
	p, e := point.Of(symbols(), c)
	q, f := point.Of(symbols(), d)
	if under, g := point.Under(p, q); ok && (!under || e != api.OK || f != api.OK || g != api.OK) {
		t.Errorf("P10.3 %s: %v subsumes %v, but their points are %v and %v", what, c, d, p, q)
	}
}

func places(t *testing.T, what string, c, d api.Clause, want ...int) {
	t.Helper()
	answers(t, what, c, d, true, want)
}

func none(t *testing.T, what string, c, d api.Clause) {
	t.Helper()
	answers(t, what, c, d, false, nil)
}

func oneWay(t *testing.T, what string, c, d api.Clause, want ...int) {
	t.Helper()
	places(t, what, c, d, want...)
	none(t, what+", the other way round", d, c)
}

func TestOneLit(t *testing.T) {
	oneWay(t, "a variable becomes a constant", lits(is(tall, x(0))), lits(is(tall, ann)), 0)
	oneWay(t, "a variable becomes a term of variables", lits(is(tall, x(0))), lits(is(tall, g, x(1), x(0))), 0)
	oneWay(t, "a variable becomes a term in which it stands", lits(is(tall, x(0))), lits(is(tall, f, x(0))), 0)
	oneWay(t, "different variables become one", lits(is(likes, x(0), x(1))), lits(is(likes, x(0), x(0))), 0)
	places(t, "another variable", lits(is(tall, x(0))), lits(is(tall, x(7))), 0)
	places(t, "itself", lits(is(tall, x(3))), lits(is(tall, x(3))), 0)
	places(t, "without arguments", lits(is(rains)), lits(is(rains)), 0)
	places(t, "an equation", lits(is(eq, x(0), x(1))), lits(is(eq, ann, f, bob)), 0)
	none(t, "an equation's sides are not exchanged", lits(is(eq, x(0), f, x(0))), lits(is(eq, f, ann, ann)))
	none(t, "different constants", lits(is(tall, ann)), lits(is(tall, bob)))
	none(t, "different functions", lits(is(tall, f, x(0))), lits(is(tall, ann)))
	none(t, "different predicates", lits(is(likes, x(0), x(1))), lits(is(eq, x(0), x(1))))
	none(t, "different predicates, without arguments and with", lits(is(rains)), lits(is(tall, ann)))
	none(t, "a predicate behind the functions", lits(is(between, x(0), x(1), x(2))), lits(is(likes, ann, bob), is(rains)))
}

// The index is that among the parts of one kind.
func TestIndexes(t *testing.T) {
	d := whole(lits(is(rains), not(tall, ann), is(likes, ann, bob), is(tall, bob)), tuples(row(ann, ann), row(bob, ann)), conds(not(rains), is(tall, ann), is(rains)))
	places(t, "the second Lit", lits(not(tall, x(0))), d, 1)
	places(t, "the last Lit", lits(is(tall, x(0))), d, 3)
	places(t, "Lits in another order", lits(is(tall, x(1)), is(rains), is(likes, x(0), x(1))), d, 3, 0, 2)
	places(t, "a Tuple", tuples(row(bob, x(0))), d, 1)
	places(t, "a Cond", conds(is(rains)), d, 2)
	places(t, "Lits, then Tuples, then Conds", whole(lits(is(likes, x(0), x(1)), is(rains)), tuples(row(x(1), x(0)), row(x(2), x(2))), conds(is(tall, x(0)), not(rains))), d, 2, 0, 1, 0, 1, 0)
	places(t, "Lits and Conds", whole(lits(is(tall, x(0))), conds(is(tall, x(1)))), d, 3, 1)
	places(t, "Tuples and Conds", whole(tuples(row(x(0), ann)), conds(is(tall, x(0)))), d, 0, 1)
	places(t, "itself", d, d, 0, 1, 2, 3, 0, 1, 0, 1, 2)
}

func TestNothing(t *testing.T) {
	empty := api.Clause{}
	lists := api.Clause{Lits: []api.Lit{}, Tuples: [][]int{}, Conds: []api.Lit{}}
	a, b, c := lits(is(tall, ann)), tuples(row(ann)), conds(is(tall, ann))
	for _, d := range []api.Clause{empty, lists, a, b, c, tuples(nil), tuples(row()), whole(a, b), whole(a, c), whole(b, c), whole(a, b, c)} {
		places(t, "nothing in the first place", empty, d)
		places(t, "empty lists in the first place", lists, d)
	}
	for _, d := range []api.Clause{a, b, c, tuples(nil), tuples(row()), lits(not(rains)), conds(not(rains)), tuples(row(x(0)))} {
		none(t, "nothing in the second place", d, empty)
		none(t, "empty lists in the second place", d, lists)
	}
	oneWay(t, "without Lits", whole(b, c), whole(a, b, c), 0, 0)
	oneWay(t, "without Tuples", whole(a, c), whole(a, b, c), 0, 0)
	oneWay(t, "without Conds", whole(a, b), whole(a, b, c), 0, 0)
	oneWay(t, "Lits alone", a, whole(a, b, c), 0)
	oneWay(t, "Tuples alone", b, whole(a, b, c), 0)
	oneWay(t, "Conds alone", c, whole(a, b, c), 0)
	oneWay(t, "less", lits(is(rains)), lits(is(rains), is(tall, ann)), 0)
}

// Tuples may have no terms, and as rows of one length they fit those of the same length only.
func TestTuples(t *testing.T) {
	places(t, "no terms", tuples(nil), tuples(row()), 0)
	places(t, "no terms, more Tuples", tuples(row(), nil, row()), tuples(nil, row()), 0, 0, 0)
	none(t, "no terms and one", tuples(nil), tuples(row(ann)))
	none(t, "one term and none", tuples(row(x(0))), tuples(nil))
	none(t, "one term and two", tuples(row(x(0))), tuples(row(ann, bob)))
	none(t, "two terms and one", tuples(row(x(0), x(1))), tuples(row(g, ann, bob)))
	oneWay(t, "terms", tuples(row(x(0), f, x(1))), tuples(row(f, ann, f, f, bob)), 0)
	oneWay(t, "two become one", tuples(row(x(0)), row(f, x(1))), tuples(row(f, ann)), 0, 0)
	oneWay(t, "one of three", tuples(row(x(0), x(0))), tuples(row(ann, bob), row(x(0), x(1)), row(x(2), x(2))), 2)
	places(t, "no terms beside a Lit", whole(lits(is(tall, x(0))), tuples(nil)), whole(lits(is(tall, ann)), tuples(nil)), 0, 0)
}

// What each part allows by itself, and even what each kind of parts allows, is not enough.
func TestOneSubstitution(t *testing.T) {
	c, d := lits(is(tall, x(0)), not(tall, x(0))), lits(is(tall, ann), not(tall, bob))
	none(t, "two Lits", c, d)
	places(t, "two Lits, different variables", lits(is(tall, x(0)), not(tall, x(1))), d, 0, 1)
	a, b, e := lits(is(tall, x(0))), tuples(row(x(0))), conds(is(tall, x(0)))
	none(t, "a Lit and a Tuple", whole(a, b), whole(lits(is(tall, ann)), tuples(row(bob))))
	none(t, "a Lit and a Cond", whole(a, e), whole(lits(is(tall, ann)), conds(is(tall, bob))))
	none(t, "a Tuple and a Cond", whole(b, e), whole(tuples(row(ann)), conds(is(tall, bob))))
	none(t, "two Tuples", tuples(row(x(0), ann), row(x(0), bob)), tuples(row(ann, ann), row(bob, bob)))
	none(t, "two Conds", conds(is(tall, x(0)), not(tall, x(0))), conds(is(tall, ann), not(tall, bob)))
	none(t, "the last of three", whole(a, b, e), whole(lits(is(tall, ann)), tuples(row(ann)), conds(is(tall, bob))))
	none(t, "the first of three", whole(a, b, e), whole(lits(is(tall, bob)), tuples(row(ann)), conds(is(tall, ann))))
	places(t, "all of three", whole(a, b, e), whole(lits(is(tall, ann)), tuples(row(ann)), conds(is(tall, ann))), 0, 0, 0)
	none(t, "each two of three parts, but not all", lits(is(likes, x(0), x(1)), is(eq, x(1), x(2)), is(between, x(2), x(0), ann)),
		lits(is(likes, ann, bob), is(likes, bob, ann), is(eq, ann, bob), is(eq, bob, ann), is(between, ann, bob, ann)))
	none(t, "a circle of three, and there are circles of two only", lits(is(likes, x(0), x(1)), is(likes, x(1), x(2)), is(likes, x(2), x(0))), lits(is(likes, ann, bob), is(likes, bob, ann)))
	oneWay(t, "a circle of four", lits(is(likes, x(0), x(1)), is(likes, x(1), x(2)), is(likes, x(2), x(3)), is(likes, x(3), x(0))), lits(is(likes, ann, bob), is(likes, bob, ann)), 0, 1, 0, 1)
	none(t, "a circle of Lits, Tuples and Conds", whole(lits(is(likes, x(0), x(1))), tuples(row(x(1), x(2))), conds(is(likes, x(2), x(0)))),
		whole(lits(is(likes, ann, bob), is(likes, bob, ann)), tuples(row(ann, bob), row(bob, ann)), conds(is(likes, ann, bob), is(likes, bob, ann))))
}

// A variable that stands more than once becomes one thing, in one part and in several, be it long.
func TestVariableMoreThanOnce(t *testing.T) {
	c := lits(is(likes, x(0), x(0)))
	oneWay(t, "one term twice", c, lits(is(likes, f, g, ann, x(1), f, g, ann, x(1))), 0)
	none(t, "two terms", c, lits(is(likes, ann, bob)))
	none(t, "two terms that begin alike", c, lits(is(likes, f, f, ann, f, ann)))
	none(t, "two variables", c, lits(is(likes, x(0), x(1))))
	oneWay(t, "in two Lits", lits(is(tall, x(0)), not(tall, f, x(0))), lits(not(tall, f, f, x(2)), is(tall, f, x(2))), 1, 0)
	none(t, "in two Lits, a term and what holds it", lits(is(tall, x(0)), not(tall, x(0))), lits(not(tall, f, x(0)), is(tall, x(0))))
	oneWay(t, "three times", lits(is(between, x(0), f, x(0), g, x(0), x(0))), lits(is(between, bob, f, bob, g, bob, bob)), 0)
	none(t, "three times, the last one is different", lits(is(between, x(0), f, x(0), x(0))), lits(is(between, bob, f, bob, ann)))
}

// What stands in d stands for itself, also where c has a variable of the same number.
func TestVariablesOfTheSecond(t *testing.T) {
	none(t, "a variable does not become a constant", lits(is(tall, ann)), lits(is(tall, x(0))))
	none(t, "a variable does not become a term", lits(is(likes, x(0), f, x(0))), lits(is(likes, x(0), x(1))))
	none(t, "variables do not become one", lits(is(likes, x(0), x(0))), lits(is(likes, x(1), x(2))))
	places(t, "exchanged", lits(is(likes, x(0), x(1))), lits(is(likes, x(1), x(0))), 0)
	places(t, "exchanged, in two Lits", lits(is(likes, x(0), x(1)), not(likes, x(1), x(0))), lits(not(likes, x(0), x(1)), is(likes, x(1), x(0))), 1, 0)
	oneWay(t, "a variable in a term of itself", lits(is(likes, x(0), x(1))), lits(is(likes, f, x(0), f, x(1))), 0)
	oneWay(t, "a variable in a term of the next one", lits(is(likes, x(0), x(1))), lits(is(likes, f, x(1), x(0))), 0)
	none(t, "a variable that stays itself in one Lit", lits(is(tall, x(0)), not(tall, x(0))), lits(is(tall, x(0)), not(tall, ann)))
	none(t, "a variable that stays itself in the last Lit", lits(is(tall, x(0)), not(tall, x(0))), lits(is(tall, ann), not(tall, x(0))))
	none(t, "a variable that stays itself in a Tuple", whole(lits(is(tall, x(0))), tuples(row(x(0)))), whole(lits(is(tall, f, x(0))), tuples(row(x(0)))))
	places(t, "the greatest number", lits(is(likes, x(0), x(api.MaxVar))), lits(is(likes, x(api.MaxVar), x(0))), 0)
}

func TestOpposites(t *testing.T) {
	none(t, "a Lit and its opposite", lits(is(tall, ann)), lits(not(tall, ann)))
	none(t, "a Lit with Neg and its opposite", lits(not(tall, ann)), lits(is(tall, ann)))
	none(t, "without arguments", lits(not(rains)), lits(is(rains)))
	none(t, "a Cond and its opposite", conds(is(tall, x(0))), conds(not(tall, x(0))))
	none(t, "a Cond with Neg and its opposite", conds(not(tall, x(0))), conds(is(tall, x(0))))
	none(t, "equations", lits(not(eq, x(0), x(1))), lits(is(eq, x(0), x(1))))
	oneWay(t, "the other one is there too", lits(not(tall, x(0))), lits(is(tall, ann), is(tall, bob), not(tall, bob)), 2)
	oneWay(t, "the other Cond is there too", conds(is(tall, x(0))), conds(not(tall, ann), is(tall, bob)), 1)
	none(t, "a heavier one without Neg does not help", lits(not(tall, x(0)), is(tall, x(0))), lits(is(tall, sk), not(rains)))
	places(t, "both", lits(not(tall, x(0)), is(tall, x(1))), lits(is(tall, ann), not(tall, bob)), 1, 0)
}

// Lits are changed to Lits, Tuples to Tuples and Conds to Conds.
func TestKindsApart(t *testing.T) {
	l, r := is(tall, ann), row(ann)
	none(t, "a Lit and a Cond", lits(l), conds(l))
	none(t, "a Cond and a Lit", conds(l), lits(l))
	none(t, "a Lit and a Tuple", lits(is(tall, x(0))), tuples(r))
	none(t, "a Tuple and a Lit", tuples(row(x(0))), lits(l))
	none(t, "a Tuple and a Cond", tuples(row(x(0))), conds(l))
	none(t, "a Cond and a Tuple", conds(is(tall, x(0))), tuples(r))
	none(t, "a Tuple without terms and a Lit without arguments", tuples(nil), lits(is(rains)))
	none(t, "a Lit and a Cond with Neg, as what a clause denies", lits(l), conds(not(tall, ann)))
	none(t, "Lits and Conds exchanged", whole(lits(is(rains)), conds(l)), whole(lits(l), conds(is(rains))))
	none(t, "a Lit is there, the Cond is not", whole(lits(l), conds(l)), lits(l, l))
	none(t, "a Cond is there, the Lit is not", whole(lits(l), conds(l)), conds(l, l))
}

func TestSameOne(t *testing.T) {
	oneWay(t, "two Lits", lits(is(tall, x(0)), is(tall, x(1))), lits(is(tall, ann)), 0, 0)
	oneWay(t, "a general Lit and a special one", lits(is(likes, x(0), bob), is(likes, ann, x(1))), lits(is(rains), is(likes, ann, bob)), 1, 1)
	oneWay(t, "equal Lits", lits(is(tall, ann), is(tall, ann), is(tall, ann)), lits(is(tall, ann), is(rains)), 0, 0, 0)
	oneWay(t, "five Lits", lits(is(tall, x(0)), is(tall, x(1)), is(tall, x(2)), is(tall, x(3)), is(tall, x(4))), lits(is(tall, f, x(0))), 0, 0, 0, 0, 0)
	places(t, "two Lits of one variable", lits(is(likes, x(0), x(1)), is(likes, x(1), x(0))), lits(is(likes, ann, ann)), 0, 0)
	oneWay(t, "Tuples", tuples(row(x(0), ann), row(bob, x(1)), row(x(2), x(2))), tuples(row(ann, ann), row(bob, ann)), 0, 1, 0)
	oneWay(t, "Conds", conds(is(tall, x(0)), is(tall, x(1))), conds(is(tall, f, ann)), 0, 0)
	places(t, "equal ones in both", lits(is(rains), is(rains)), lits(is(rains), is(rains)), 0, 0)
	places(t, "more than the other clause has", lits(is(rains), is(rains)), lits(is(rains)), 0, 0)
}

// A choice that fits is taken back if none fits behind it.
func TestTakenBack(t *testing.T) {
	oneWay(t, "the first Lit", lits(is(tall, x(0)), not(tall, x(0))), lits(is(tall, ann), is(tall, bob), not(tall, bob)), 1, 2)
	oneWay(t, "the first Lit, twice", lits(is(tall, x(0)), not(tall, x(0))), lits(is(tall, ann), is(tall, bob), is(tall, x(0)), is(tall, sk), not(tall, sk)), 3, 4)
	oneWay(t, "by a Tuple", whole(lits(is(tall, x(0))), tuples(row(x(0)))), whole(lits(is(tall, ann), is(tall, bob)), tuples(row(bob), row(sk))), 1, 0)
	oneWay(t, "by a Cond", whole(lits(is(tall, x(0)), is(tall, x(1))), conds(is(likes, x(0), x(1)))), whole(lits(is(tall, ann), is(tall, bob), is(tall, sk)), conds(is(likes, sk, bob))), 2, 1, 0)
	oneWay(t, "a Tuple by a Cond", whole(tuples(row(x(0))), conds(is(tall, x(0)))), whole(tuples(row(ann), row(bob)), conds(is(tall, bob))), 1, 0)
	oneWay(t, "a Cond by a Cond", conds(is(tall, x(0)), not(tall, x(0))), conds(is(tall, ann), is(tall, bob), not(tall, bob)), 1, 2)
	path := lits(is(likes, x(0), x(1)), is(likes, x(1), x(2)), is(likes, x(2), x(3)))
	oneWay(t, "a path, found last", path, lits(is(likes, ann, bob), is(likes, f, sk, sk), is(likes, bob, f, sk)), 0, 2, 1)
	oneWay(t, "a path, by ways that end", path, lits(is(likes, ann, x(0)), is(likes, bob, ann), is(likes, sk, bob)), 2, 1, 0)
	none(t, "no path long enough", path, lits(is(likes, ann, bob), is(likes, bob, sk), is(likes, ann, sk)))
	oneWay(t, "only one variable's choice is taken back", lits(is(tall, x(0)), is(tall, x(1)), is(likes, x(0), x(0))), lits(is(tall, ann), is(tall, bob), is(likes, bob, bob)), 1, 0, 2)
	oneWay(t, "two choices that fail behind do not yet make the third one fail", lits(is(likes, x(1), x(2)), is(likes, x(0), x(2)), is(likes, x(1), x(0))), lits(is(likes, sk, bob), is(likes, ann, sk), is(likes, ann, bob)), 2, 0, 1)
	oneWay(t, "a choice behind the one that is taken back is taken back too", whole(lits(is(tall, x(0)), not(tall, x(1))), tuples(row(x(1), x(0)))),
		whole(lits(is(tall, ann), is(tall, bob), not(tall, ann), not(tall, bob)), tuples(row(bob, bob), row(ann, sk))), 1, 3, 0)
}

// Of several lists, that one counts which is less where they first differ, and not that one of which most is less.
func TestLeastList(t *testing.T) {
	places(t, "equal Lits", lits(is(rains)), lits(is(tall, ann), is(rains), is(rains)), 1)
	places(t, "any Lit", lits(is(tall, x(0))), lits(is(tall, bob), is(tall, ann), is(tall, x(0))), 0)
	places(t, "any Lit for each", lits(is(tall, x(0)), is(tall, x(1))), lits(is(tall, bob), is(tall, ann)), 0, 0)
	places(t, "any Tuple", tuples(row(x(0)), row(x(1))), tuples(row(bob), row(ann), row(ann)), 0, 0)
	places(t, "any Cond", conds(is(tall, x(0)), not(tall, x(1))), conds(not(tall, ann), is(tall, bob), not(tall, bob)), 1, 0)
	both := lits(is(tall, x(0)), not(tall, x(0)), is(likes, x(0), x(1)))
	places(t, "the first number counts most", both, lits(is(tall, ann), not(tall, bob), is(tall, bob), is(likes, bob, sk), not(tall, ann)), 2, 1, 3)
	places(t, "the first number is less, the others are greater", lits(is(tall, x(0)), not(tall, x(0))), lits(is(tall, ann), not(tall, bob), is(tall, bob), not(tall, ann)), 0, 3)
	places(t, "a Lit counts more than a Tuple", whole(lits(is(tall, x(0))), tuples(row(x(0)))), whole(lits(is(tall, ann), is(tall, bob)), tuples(row(bob), row(ann))), 0, 1)
	places(t, "a Tuple counts more than a Cond", whole(tuples(row(x(0))), conds(is(tall, x(0)))), whole(tuples(row(ann), row(bob)), conds(is(tall, bob), is(tall, ann))), 0, 1)
	places(t, "a Lit counts more than a Cond", whole(lits(is(tall, x(0))), conds(is(tall, x(0)))), whole(lits(is(tall, ann), is(tall, bob)), conds(is(tall, bob), is(tall, ann))), 0, 1)
	places(t, "the second number is the least after the first", lits(is(likes, x(0), x(1)), is(likes, x(1), x(2))), lits(is(likes, sk, sk), is(likes, ann, bob), is(likes, bob, ann)), 0, 0)
	places(t, "the second number", lits(is(likes, ann, x(0)), is(likes, x(0), x(1))), lits(is(likes, bob, ann), is(likes, ann, bob), is(likes, bob, bob)), 1, 0)
	places(t, "clauses of equal parts", whole(lits(is(rains), is(rains)), tuples(row(), row()), conds(not(rains), not(rains))), whole(lits(is(rains), is(rains)), tuples(row(), row()), conds(not(rains), not(rains))), 0, 0, 0, 0, 0, 0)
}

// Points that are not under each other forbid it; those that are do not yet bring it.
func TestPoints(t *testing.T) {
	none(t, "a heavier Lit", lits(is(tall, bob)), lits(is(tall, ann)))
	none(t, "a heavier Lit with Neg", lits(not(tall, bob)), lits(not(tall, ann), is(tall, bob)))
	none(t, "a lighter Lit", lits(is(tall, ann)), lits(is(tall, bob)))
	none(t, "heavier variables", lits(is(likes, x(0), x(0))), lits(is(tall, sk), is(likes, ann, bob)))
	places(t, "just as heavy", lits(is(tall, x(0)), not(rains)), lits(is(tall, ann), not(rains)), 0, 1)
	places(t, "a heavy Tuple and a heavy Cond do not count", whole(lits(is(rains)), tuples(row(x(0))), conds(is(tall, x(0)))), whole(lits(is(rains)), tuples(row(sk)), conds(is(tall, sk))), 0, 0, 0)
	places(t, "no Lits at all", whole(tuples(row(sk)), conds(is(tall, sk))), whole(lits(is(rains)), tuples(row(sk)), conds(is(tall, sk))), 0, 0)
}

// one is a term of n codes that ends with the code last.
func one(n, last int) []int {
	return slices.Concat(slices.Repeat([]int{f}, n-1), []int{last})
}

// tower is an Atom of n codes that ends with the code last.
func tower(n, last int) []int {
	return slices.Concat([]int{tall}, one(n-1, last))
}

// ring has each number of parts that may be; its parts are joined by variables, and it fits into what makes any of them next to any other one.
func ring() api.Clause {
	return whole(
		lits(is(likes, x(0), x(1)), is(likes, x(1), x(2)), is(likes, x(2), x(3)), is(likes, x(3), x(4)), is(likes, x(4), x(5))),
		tuples(row(x(5), x(6)), row(x(6), x(7)), row(x(7), x(8))),
		conds(is(likes, x(8), x(9)), is(likes, x(9), x(10)), is(likes, x(10), x(0))),
	)
}

// sides has each number of parts that may be, all of them between ann and bob; a part of each kind is turned round, at the end, if back is true.
func sides(back bool) api.Clause {
	l, r := is(likes, ann, bob), row(ann, bob)
	out := whole(lits(l, l, l, l, l), tuples(r, r, r), conds(l, l, l))
	if back {
		out.Lits[4], out.Tuples[2], out.Conds[2] = is(likes, bob, ann), row(bob, ann), is(likes, bob, ann)
	}
	return out
}

func TestLargest(t *testing.T) {
	full := whole(lits(is(tower(49, x(0))...), is(tower(49, x(1))...), is(tower(49, x(2))...), is(tower(49, x(3))...)), tuples(one(44, x(4))))
	ground := whole(lits(is(tower(49, ann)...), is(tower(49, bob)...), is(tower(49, sk)...), is(tower(49, x(0))...)), tuples(one(44, ann)))
	places(t, "as many codes as may be, itself", full, full, 0, 0, 0, 0, 0)
	oneWay(t, "as many codes as may be", full, ground, 0, 0, 0, 0, 0)
	oneWay(t, "few codes, and as many as may be", lits(is(tall, x(0))), ground, 0)
	long := lits(is(slices.Concat(row(between), one(16, x(0)), one(16, x(1)), one(16, x(0)))...))
	oneWay(t, "a long Atom", long, lits(is(slices.Concat(row(between), one(16, ann), one(16, bob), one(16, ann))...)), 0)
	none(t, "a long Atom, different at its end", long, lits(is(slices.Concat(row(between), one(16, ann), one(16, bob), one(16, bob))...)))
	oneWay(t, "long pieces", lits(is(likes, x(0), x(0))), lits(is(slices.Concat(row(likes), one(24, ann), one(24, ann))...)), 0)
	none(t, "long pieces, different at their end", lits(is(likes, x(0), x(0))), lits(is(slices.Concat(row(likes), one(24, ann), one(24, bob))...)))
	places(t, "all variables", lits(is(slices.Concat(row(tall), slices.Repeat([]int{g}, 11), slices.Repeat([]int{x(0), x(23), x(7)}, 4))...)), lits(is(slices.Concat(row(tall), slices.Repeat([]int{g}, 11), slices.Repeat([]int{x(7), x(0), x(23)}, 4))...)), 0)
}

// All lists fail in the end, or only the last ones do not: this must not take as long as there are lists.
func TestMostParts(t *testing.T) {
	places(t, "as many parts as may be, itself", ring(), ring(), 0, 1, 2, 3, 4, 0, 1, 2, 0, 1, 2)
	none(t, "a ring of eleven, and two ends", ring(), sides(true))
	even := ring()
	even.Conds[2] = is(likes, x(9), x(10))
	places(t, "an even ring, and two ends", even, sides(true), 0, 4, 0, 4, 0, 2, 0, 2, 0, 2, 2)
	none(t, "no way back", ring(), sides(false))
	loop := sides(true)
	loop.Lits[4], loop.Tuples[2], loop.Conds[2] = is(likes, sk, sk), row(sk, sk), is(likes, sk, sk)
	places(t, "the last ones only", ring(), loop, 4, 4, 4, 4, 4, 2, 2, 2, 2, 2, 2)
	apart := whole(
		lits(is(likes, x(0), x(1)), is(likes, x(2), x(3)), is(likes, x(4), x(5)), is(likes, x(6), x(7)), is(likes, x(8), x(9))),
		tuples(row(x(10), x(11)), row(x(12), x(13)), row(x(14), x(15))),
		conds(is(likes, x(16), x(17)), is(likes, x(17), x(18)), is(likes, x(18), x(16))),
	)
	none(t, "parts apart, three of which fail", apart, sides(true))
	places(t, "parts apart, three of which take the last ones", apart, loop, 0, 0, 0, 0, 0, 0, 0, 0, 2, 2, 2)
	apart.Conds[2] = is(likes, x(18), x(19))
	places(t, "parts apart, all of which fit", apart, sides(true), 0, 0, 0, 0, 0, 0, 0, 0, 0, 2, 0)
}

// wrongClauses are not valid, by one thing each.
func wrongClauses() []api.Clause {
	r, full := is(rains), is(tower(api.MaxTerm+1, x(0))...)
	out := []api.Clause{
		lits(r, r, r, r, r, r), tuples(nil, nil, nil, nil), conds(r, r, r, r),
		lits(slices.Repeat([]api.Lit{r}, 1000000)...), tuples(slices.Repeat([][]int{nil}, 1000000)...), conds(slices.Repeat([]api.Lit{r}, 1000000)...),
		lits(full, full, full, full, is(tower(45, x(0))...)), whole(lits(full, full), tuples(one(45, ann)), conds(full, full)),
		tuples(row(ann), row(ann, bob)), tuples(nil, row(ann)), whole(lits(r), tuples(row(ann), row(f, ann), nil)),
		tuples(row(f)), tuples(row(ann), row(beyond)), tuples(row(rains)), tuples(row(x(api.MaxVar + 1))), tuples(row(math.MinInt)), tuples(row(math.MaxInt)),
		tuples(slices.Repeat([]int{ann}, api.MaxTerm+1)),
	}
	for _, atom := range [][]int{
		nil, {}, {x(0)}, {ann}, {eq}, {eq, ann}, {eq, ann, ann, ann}, {tall, f}, {rains, ann}, {tall, rains}, {tall, x(api.MaxVar + 1)},
		{beyond}, {tall, beyond}, {math.MinInt}, {math.MaxInt}, {tall, math.MinInt}, {tall, math.MaxInt}, tower(api.MaxTerm+2, x(0)), slices.Repeat([]int{f}, 1000000),
	} {
		for _, wrong := range []api.Lit{is(atom...), not(atom...)} {
			out = append(out, lits(wrong), lits(r, wrong), conds(wrong), whole(lits(r), conds(r, wrong)))
		}
	}
	return out
}

// wrongSignatures are not valid, though all codes below beyond are symbols in most of them.
func wrongSignatures() [][]api.Sym {
	out := [][]api.Sym{nil, {}, symbols()[1:], append(symbols(), symbols()[ann]), slices.Repeat(symbols(), 3), slices.Repeat(symbols(), 1000)}
	for _, s := range []api.Sym{
		{Name: "", Weight: 1}, {Name: "X", Weight: 1}, {Name: "abcdefghi", Weight: 1}, {Name: "z", Kind: 3, Weight: 1}, {Name: "z", Kind: -1, Weight: 1},
		{Name: "z", Arity: api.MaxArity + 1, Weight: 1}, {Name: "z", Arity: -1, Weight: 1}, {Name: "z"}, {Name: "z", Weight: api.MaxWeight + 1}, {Name: "z", Weight: math.MaxInt},
	} {
		out = append(out, append(symbols(), s))
	}
	weight := symbols()
	weight[eq].Weight = 2
	return append(out, weight)
}

func refused(t *testing.T, what string, i int, sig []api.Sym, c, d api.Clause) {
	t.Helper()
	if got, ok, e := subsume.Places(sig, c, d); len(got) > 0 || ok || e != api.ErrSubsumeForm {
		t.Errorf("P10.1, R2: %s %d: Places = %v, %t, %d", what, i, got, ok, e)
	}
	if ok, e := subsume.Does(sig, c, d); ok || e != api.ErrSubsumeForm {
		t.Errorf("P10.2, R2: %s %d: Does = %t, %d", what, i, ok, e)
	}
}

// A wrong clause is refused also where the other one would decide alone.
func TestWrongClauses(t *testing.T) {
	for i, c := range wrongClauses() {
		for _, d := range []api.Clause{{}, lits(is(rains)), whole(lits(is(tall, sk), not(tall, sk)), tuples(row(ann)), conds(is(rains))), ring()} {
			refused(t, "wrong first clause", i, symbols(), c, d)
			refused(t, "wrong second clause", i, symbols(), d, c)
		}
		refused(t, "two wrong clauses", i, symbols(), c, c)
	}
}

func TestWrongSignatures(t *testing.T) {
	a := lits(is(eq, x(0), x(1)))
	for i, sig := range wrongSignatures() {
		for _, c := range []api.Clause{{}, a, whole(lits(not(rains)), tuples(row(ann)), conds(is(tall, sk))), lits(is(beyond))} {
			for _, d := range []api.Clause{{}, a, c} {
				refused(t, "wrong signature", i, sig, c, d)
				refused(t, "wrong signature", i, sig, d, c)
			}
		}
	}
}
