package path_test

import (
	"math"
	"slices"
	"strconv"
	"testing"

	"quaere/api"
	"quaere/path"
)

// The codes of symbols().
const (
	eq = iota
	rains
	tall
	likes
	ann
	bob
	f
	g
	h
	sk
	sk2
	between
	knows
	snows
	beyond // no symbol has this code
)

// symbols has predicates before and behind the functions, and all kinds and arities.
func symbols() []api.Sym {
	return []api.Sym{
		eq:      {Name: "=", Kind: api.KindPred, Arity: 2, Weight: 1},
		rains:   {Name: "rains", Kind: api.KindPred, Arity: 0, Weight: 4},
		tall:    {Name: "tall", Kind: api.KindPred, Arity: 1, Weight: 2},
		likes:   {Name: "likes", Kind: api.KindPred, Arity: 2, Weight: 1},
		ann:     {Name: "ann", Kind: api.KindFun, Arity: 0, Weight: 2},
		bob:     {Name: "bob", Kind: api.KindFun, Arity: 0, Weight: 2},
		f:       {Name: "f", Kind: api.KindFun, Arity: 1, Weight: 3},
		g:       {Name: "g", Kind: api.KindFun, Arity: 2, Weight: 5},
		h:       {Name: "h", Kind: api.KindFun, Arity: api.MaxArity, Weight: 7},
		sk:      {Name: "sk", Kind: api.KindSkolem, Arity: 0, Weight: api.MaxWeight},
		sk2:     {Name: "sk2", Kind: api.KindSkolem, Arity: 2, Weight: 1},
		between: {Name: "between", Kind: api.KindPred, Arity: api.MaxArity, Weight: 1},
		knows:   {Name: "knows", Kind: api.KindPred, Arity: 2, Weight: 1},
		snows:   {Name: "snows", Kind: api.KindPred, Arity: 0, Weight: 1},
	}
}

// x is the code of the variable v.
func x(v int) int {
	return -1 - v
}

func row(codes ...int) []int {
	return codes
}

// rows is for lists of paths and of expressions.
func rows(rs ...[]int) [][]int {
	return rs
}

// one is a term of n codes that ends with the code last.
func one(n, last int) []int {
	return append(slices.Repeat(row(f), n-1), last)
}

// chain is a term of 2 * n + 1 codes: n times the code g, the i-th time with the variable i (up to MaxVar, then from 0 on again) as its first argument, and a variable last.
func chain(n int) []int {
	var out []int
	for i := range n {
		out = append(out, g, x(i%(api.MaxVar+1)))
	}
	return append(out, x(n%(api.MaxVar+1)))
}

// Longest expressions: a term of MaxTerm codes, an atom with arguments of MaxTerm codes.
func longestTerm() []int {
	return slices.Concat(row(h, f, x(0)), chain(11), chain(10))
}

func longestAtom() []int {
	return slices.Concat(row(between), chain(11), chain(11), row(f, ann))
}

func samePaths(a, b [][]int) bool {
	return slices.EqualFunc(a, b, slices.Equal)
}

func lists(t *testing.T, what string, r []int, want ...[]int) {
	t.Helper()
	got, e := path.Paths(symbols(), r)
	if e != api.OK || !samePaths(got, want) {
		t.Errorf("P12.1 %s: Paths(%v) = %v, %d; want %v", what, r, got, e, want)
	}
}

func TestPathsOfOneCode(t *testing.T) {
	for v := range api.MaxVar + 1 {
		lists(t, "a variable", row(x(v)), row(-1))
	}
	for _, code := range []int{ann, bob, sk} {
		lists(t, "a symbol without arguments", row(code), row(code))
	}
	for _, code := range []int{rains, snows} {
		lists(t, "an atom without arguments", row(code), row(code))
	}
}

func TestPathsOfTerms(t *testing.T) {
	lists(t, "one argument", row(f, ann), row(f), row(0, ann))
	lists(t, "a variable within", row(f, x(7)), row(f), row(0, -1))
	lists(t, "two arguments", row(g, ann, bob), row(g), row(0, ann), row(1, bob))
	lists(t, "three arguments", row(h, ann, x(0), sk), row(h), row(0, ann), row(1, -1), row(2, sk))
	lists(t, "three variables", row(h, x(0), x(1), x(api.MaxVar)), row(h), row(0, -1), row(1, -1), row(2, -1))
	lists(t, "arguments of the first argument", row(g, g, ann, bob, sk), row(g), row(0, g), row(0, 0, ann), row(0, 1, bob), row(1, sk))
	lists(t, "arguments of the last argument", row(g, ann, g, bob, sk), row(g), row(0, ann), row(1, g), row(1, 0, bob), row(1, 1, sk))
	lists(t, "arguments of the middle argument", row(h, ann, sk2, x(0), f, x(0), bob), row(h), row(0, ann), row(1, sk2), row(1, 0, -1), row(1, 1, f), row(1, 1, 0, -1), row(2, bob))
	lists(t, "several levels end at once", row(h, f, f, f, ann, g, x(2), f, bob, ann), row(h), row(0, f), row(0, 0, f), row(0, 0, 0, f), row(0, 0, 0, 0, ann), row(1, g), row(1, 0, -1), row(1, 1, f), row(1, 1, 0, bob), row(2, ann))
	lists(t, "equal arguments", row(g, f, ann, f, ann), row(g), row(0, f), row(0, 0, ann), row(1, f), row(1, 0, ann))
}

func TestPathsOfAtoms(t *testing.T) {
	lists(t, "one argument", row(tall, x(3)), row(tall), row(0, -1))
	lists(t, "two arguments", row(likes, ann, x(0)), row(likes), row(0, ann), row(1, -1))
	lists(t, "an equation", row(eq, f, x(1), g, x(1), ann), row(eq), row(0, f), row(0, 0, -1), row(1, g), row(1, 0, -1), row(1, 1, ann))
	lists(t, "a predicate behind the functions", row(between, g, ann, bob, x(5), f, sk), row(between), row(0, g), row(0, 0, ann), row(0, 1, bob), row(1, -1), row(2, f), row(2, 0, sk))
}

func TestPathsOfTheGreatest(t *testing.T) {
	for _, last := range []int{ann, x(0), x(api.MaxVar)} {
		var deep, deepAtom [][]int
		for i := range api.MaxTerm {
			code := f
			if i == api.MaxTerm-1 {
				code = max(last, -1)
			}
			deep = append(deep, append(make([]int, i), code))
			deepAtom = append(deepAtom, append(make([]int, i+1), code))
		}
		lists(t, "the deepest term", one(api.MaxTerm, last), deep...)
		lists(t, "the deepest atom", append(row(tall), one(api.MaxTerm, last)...), append(rows(row(tall)), deepAtom...)...)
	}
	lists(t, "the longest term", longestTerm(), longestTermPaths()...)
	var most [][]int
	most = append(most, row(between))
	for i := range 2 {
		most = append(most, chainPaths(11, i)...)
	}
	lists(t, "the longest atom", longestAtom(), append(most, row(2, f), row(2, 0, ann))...)
}

func longestTermPaths() [][]int {
	out := rows(row(h), row(0, f), row(0, 0, -1))
	return append(append(out, chainPaths(11, 1)...), chainPaths(10, 2)...)
}

// chainPaths are the paths of chain(n) as an argument at this position.
func chainPaths(n, position int) [][]int {
	var out [][]int
	way := row(position)
	for range n {
		out = append(out, slices.Concat(way, row(g)), slices.Concat(way, row(0, -1)))
		way = append(way, 1)
	}
	return append(out, append(way, -1))
}

// A symbol is what the signature says of its code.
func TestPathsBySignature(t *testing.T) {
	for arity := range api.MaxArity + 1 {
		for _, kind := range []int{api.KindPred, api.KindFun, api.KindSkolem} {
			more := append(symbols(), api.Sym{Name: "z", Kind: kind, Arity: arity, Weight: 1})
			r, want := row(beyond), rows(row(beyond))
			for i := range arity {
				r, want = append(r, f, x(i)), append(want, row(i, f), row(i, 0, -1))
			}
			if got, e := path.Paths(more, r); e != api.OK || !samePaths(got, want) {
				t.Errorf("P12.1 kind %d, arity %d: Paths(%v) = %v, %d; want %v", kind, arity, r, got, e, want)
			}
			for _, way := range ways() {
				if got, e := path.Find(more, rows(r, row(ann), row(rains)), r, way); e != api.OK || !slices.Equal(got, row(0)) {
					t.Errorf("P12.2 kind %d, arity %d: %v by %d: %v, %d", kind, arity, r, way, got, e)
				}
			}
		}
	}
	alone := symbols()[:1]
	if got, e := path.Paths(alone, row(eq, x(1), x(0))); e != api.OK || !samePaths(got, rows(row(eq), row(0, -1), row(1, -1))) {
		t.Errorf("P12.1 equality alone: %v, %d", got, e)
	}
}

func ways() []int {
	return []int{api.WayUnify, api.WayInst, api.WayGen}
}

func finds(t *testing.T, what string, way int, ts [][]int, r []int, want ...int) {
	t.Helper()
	got, e := path.Find(symbols(), ts, r, way)
	if e != api.OK || !slices.Equal(got, want) {
		t.Errorf("P12.2 %s: Find(%v, %v, %d) = %v, %d; want %v", what, ts, r, way, got, e, want)
	}
}

// stand looks at how u stands to r in each of the ways, and at the same the other way round: what r can be changed to can be changed to r there.
func stand(t *testing.T, what string, r, u []int, unify, inst, gen bool) {
	t.Helper()
	index := func(is bool) []int {
		if is {
			return row(0)
		}
		return nil
	}
	for _, p := range []struct {
		way      int
		it, back bool
	}{{api.WayUnify, unify, unify}, {api.WayInst, inst, gen}, {api.WayGen, gen, inst}} {
		finds(t, what, p.way, rows(u), r, index(p.it)...)
		finds(t, what+", the other way round", p.way, rows(r), u, index(p.back)...)
	}
}

// equals can be changed to each other.
func equals(t *testing.T, what string, r, u []int) {
	t.Helper()
	stand(t, what, r, u, true, true, true)
}

// becomes: r can be changed to u, but not u to r.
func becomes(t *testing.T, what string, r, u []int) {
	t.Helper()
	stand(t, what, r, u, true, true, false)
}

// meet: they can be unified, but neither can be changed to the other one.
func meet(t *testing.T, what string, r, u []int) {
	t.Helper()
	stand(t, what, r, u, true, false, false)
}

func never(t *testing.T, what string, r, u []int) {
	t.Helper()
	stand(t, what, r, u, false, false, false)
}

func TestTerms(t *testing.T) {
	equals(t, "constants", row(ann), row(ann))
	equals(t, "variables", row(x(0)), row(x(5)))
	equals(t, "the same variable's number", row(x(3)), row(x(3)))
	equals(t, "other variables", row(g, x(0), x(1)), row(g, x(7), x(api.MaxVar)))
	equals(t, "exchanged variables", row(h, x(0), x(1), x(0)), row(h, x(1), x(0), x(1)))
	becomes(t, "a variable, a constant", row(x(0)), row(sk))
	becomes(t, "a variable, a term", row(x(0)), row(g, ann, x(1)))
	becomes(t, "a variable, a term of that number", row(x(0)), row(f, x(0)))
	becomes(t, "a variable within", row(f, x(4)), row(f, ann))
	becomes(t, "a variable twice", row(g, x(0), x(0)), row(g, f, bob, f, bob))
	becomes(t, "two variables that become one", row(g, x(0), x(1)), row(g, x(0), x(0)))
	becomes(t, "two variables that become one, of another number", row(g, x(0), x(1)), row(g, x(1), x(1)))
	becomes(t, "numbers go round", row(h, x(0), x(1), x(2)), row(h, x(1), x(2), f, x(0)))
	becomes(t, "a variable becomes what holds its number", row(g, x(0), x(1)), row(g, f, x(1), g, x(0), x(0)))
	meet(t, "a variable on each side", row(g, x(0), ann), row(g, bob, x(0)))
	meet(t, "other variables, one on each side", row(sk2, x(0), ann), row(sk2, bob, x(1)))
	meet(t, "two places on each side", row(h, x(0), x(0), ann), row(h, bob, x(0), x(1)))
	meet(t, "inside", row(f, g, f, x(0), x(1)), row(f, g, x(0), ann))
	meet(t, "the variable of the one becomes a term of the other's", row(g, x(0), f, x(0)), row(g, f, x(0), x(1)))
	never(t, "constants", row(ann), row(bob))
	never(t, "a constant, a term", row(ann), row(f, ann))
	never(t, "functions", row(g, x(0), x(1)), row(sk2, x(0), x(1)))
	never(t, "arities", row(f, x(0)), row(g, x(0), x(0)))
	never(t, "as many codes", row(g, f, x(0), x(1)), row(h, x(0), x(1), x(2)))
	never(t, "in the first argument", row(h, ann, x(0), x(1)), row(h, bob, x(0), x(1)))
	never(t, "in the last argument", row(h, x(0), x(1), ann), row(h, x(0), x(1), bob))
	never(t, "deep inside", row(f, f, g, x(0), f, ann), row(f, f, g, x(0), f, sk))
	never(t, "in all of MaxTerm codes the last", one(api.MaxTerm, ann), one(api.MaxTerm, sk))
}

// The numbers of the two expressions' variables have nothing to do with each other.
func TestNumbers(t *testing.T) {
	for v := range api.MaxVar + 1 {
		for w := range api.MaxVar + 1 {
			equals(t, "two variables", row(x(v)), row(x(w)))
			becomes(t, "a variable, a term with another one", row(x(v)), row(f, x(w)))
			meet(t, "one on each side", row(likes, x(v), ann), row(likes, bob, x(w)))
			never(t, "one on each side, held by itself", row(likes, x(v), f, x(v)), row(likes, x(w), x(w)))
		}
	}
}

func TestVariablesTwice(t *testing.T) {
	becomes(t, "in the one", row(g, x(0), x(0)), row(g, ann, ann))
	never(t, "two constants for one", row(g, x(0), x(0)), row(g, ann, bob))
	never(t, "two constants for one, inside", row(h, x(1), f, x(1), x(0)), row(h, ann, f, bob, ann))
	meet(t, "a constant and a variable for one", row(g, x(0), x(0)), row(g, x(1), ann))
	meet(t, "a constant and that variable for one", row(g, x(0), x(0)), row(g, x(0), ann))
	meet(t, "one on each side", row(h, x(0), x(0), x(1)), row(h, x(0), x(1), x(1)))
	never(t, "two constants by way of both", row(between, x(0), x(0), ann), row(between, bob, x(1), x(1)))
	meet(t, "one constant by way of both", row(between, x(0), x(0), ann), row(between, ann, x(1), x(1)))
	never(t, "two functions for one", row(g, x(0), x(0)), row(g, f, x(0), g, x(0), x(1)))
	meet(t, "terms for one", row(g, x(0), x(0)), row(g, f, x(0), f, ann))
}

func TestHeldBySelf(t *testing.T) {
	never(t, "by one variable", row(g, x(0), x(0)), row(g, x(0), f, x(0)))
	never(t, "by one variable of another number", row(g, x(0), x(0)), row(g, x(7), f, x(7)))
	never(t, "by one variable, its Term first", row(g, x(0), x(0)), row(g, f, x(1), x(1)))
	never(t, "by two variables", row(h, x(0), f, x(0), ann), row(h, x(1), x(1), ann))
	never(t, "by two variables, in an atom", row(between, x(0), f, x(0), ann), row(between, x(0), x(0), ann))
	never(t, "by two rounds", row(likes, x(0), f, x(0)), row(likes, f, x(1), x(1)))
	never(t, "deep", append(row(g, x(0)), one(40, x(0))...), row(g, x(1), x(1)))
	never(t, "behind a part that can be", row(h, ann, x(0), f, x(0)), row(h, x(1), x(0), x(0)))
	becomes(t, "what looks like it", row(x(0)), one(api.MaxTerm, x(0)))
	becomes(t, "what looks like it, inside", row(likes, x(0), x(1)), row(likes, f, x(0), f, f, x(1)))
	meet(t, "what looks like it, one on each side", row(g, x(0), f, x(0)), row(g, f, x(0), x(1)))
	equals(t, "what looks like it, of equal terms", row(g, x(0), f, x(0)), row(g, x(0), f, x(0)))
	equals(t, "what looks like it, of terms that differ in numbers", row(g, x(0), f, x(0)), row(g, x(1), f, x(1)))
}

func TestAtoms(t *testing.T) {
	equals(t, "without arguments", row(rains), row(rains))
	equals(t, "of variables", row(likes, x(0), x(1)), row(likes, x(1), x(0)))
	equals(t, "an equation", row(eq, x(0), ann), row(eq, x(3), ann))
	becomes(t, "an equation", row(eq, x(0), x(1)), row(eq, f, x(0), f, x(0)))
	becomes(t, "one argument", row(tall, x(0)), row(tall, g, x(0), ann))
	becomes(t, "behind the functions", row(between, x(0), x(0), x(1)), row(between, ann, ann, bob))
	meet(t, "an equation, one on each side", row(eq, f, x(0), x(0)), row(eq, x(0), ann))
	meet(t, "one on each side", row(knows, x(0), ann), row(knows, bob, x(0)))
	never(t, "an equation's sides are not exchanged", row(eq, ann, f, x(0)), row(eq, f, x(0), ann))
	never(t, "constants", row(tall, ann), row(tall, bob))
}

// Predicates that have equal arguments are different all the same.
func TestDifferentPredicates(t *testing.T) {
	never(t, "without arguments", row(rains), row(snows))
	never(t, "two variables", row(likes, x(0), x(1)), row(knows, x(0), x(1)))
	never(t, "equal arguments", row(likes, ann, bob), row(knows, ann, bob))
	never(t, "an equation", row(eq, x(0), x(1)), row(likes, x(0), x(1)))
	never(t, "numbers of arguments", row(tall, x(0)), row(likes, x(0), x(0)))
	never(t, "no arguments and one", row(rains), row(tall, x(0)))
	never(t, "as many codes", row(tall, f, ann), row(likes, x(0), x(1)))
}

// A variable stands for terms, not for atoms; and the term that looks like an atom is none.
func TestAtomAndTerm(t *testing.T) {
	for _, a := range rows(row(rains), row(snows), row(tall, x(0)), row(tall, ann), row(likes, x(0), x(1)), row(eq, x(0), x(1)), row(eq, ann, ann), row(between, x(0), x(0), x(0))) {
		for _, r := range rows(row(x(0)), row(x(api.MaxVar)), row(ann), row(f, x(0)), row(f, ann), row(g, x(0), x(1)), row(sk2, ann, ann), row(h, x(0), x(0), x(0)), one(api.MaxTerm, x(0))) {
			never(t, "an atom, a term", a, r)
		}
	}
}

func TestNoExpressions(t *testing.T) {
	for _, way := range ways() {
		for _, r := range rows(row(x(0)), row(ann), row(rains), row(eq, x(0), x(1)), longestTerm(), longestAtom()) {
			finds(t, "nil", way, nil, r)
			finds(t, "none", way, rows(), r)
			finds(t, "empty ones alone", way, rows(nil, row(), nil), r)
			finds(t, "an empty one before it", way, rows(nil, r), r, 1)
			finds(t, "empty ones around it", way, rows(row(), r, nil, row(), r, nil), r, 1, 4)
		}
	}
}

func TestManyExpressions(t *testing.T) {
	ts := rows(row(x(0)), row(ann), nil, row(f, x(0)), row(f, ann), row(tall, x(0)), row(g, x(0), x(0)), row(g, ann, x(1)), row(), row(g, bob, ann), row(x(9)), row(rains), row(f, ann), row(tall, ann))
	finds(t, "a variable", api.WayUnify, ts, row(x(0)), 0, 1, 3, 4, 6, 7, 9, 10, 12)
	finds(t, "a variable", api.WayInst, ts, row(x(0)), 0, 1, 3, 4, 6, 7, 9, 10, 12)
	finds(t, "a variable", api.WayGen, ts, row(x(0)), 0, 10)
	finds(t, "a constant", api.WayUnify, ts, row(ann), 0, 1, 10)
	finds(t, "a constant", api.WayInst, ts, row(ann), 1)
	finds(t, "a constant", api.WayGen, ts, row(ann), 0, 1, 10)
	finds(t, "a term", api.WayUnify, ts, row(f, f, x(0)), 0, 3, 10)
	finds(t, "a term", api.WayInst, ts, row(f, x(0)), 3, 4, 12)
	finds(t, "a term", api.WayGen, ts, row(f, ann), 0, 3, 4, 10, 12)
	finds(t, "two variables", api.WayUnify, ts, row(g, x(1), x(0)), 0, 6, 7, 9, 10)
	finds(t, "two variables", api.WayInst, ts, row(g, x(1), x(0)), 6, 7, 9)
	finds(t, "two variables", api.WayGen, ts, row(g, x(1), x(0)), 0, 10)
	finds(t, "two constants", api.WayUnify, ts, row(g, bob, ann), 0, 9, 10)
	finds(t, "a variable twice", api.WayGen, ts, row(g, ann, ann), 0, 6, 7, 10)
	finds(t, "an atom", api.WayUnify, ts, row(tall, f, x(0)), 5)
	finds(t, "an atom", api.WayInst, ts, row(tall, x(5)), 5, 13)
	finds(t, "an atom", api.WayGen, ts, row(tall, ann), 5, 13)
	finds(t, "an atom without arguments", api.WayUnify, ts, row(rains), 11)
	finds(t, "another predicate", api.WayUnify, ts, row(snows))
	finds(t, "another constant", api.WayInst, ts, row(bob))
}

// An expression that stands there several times is found as often, and another one between does not end the search.
func TestRepeated(t *testing.T) {
	u, other := row(g, x(0), ann), row(f, x(0))
	for _, way := range ways() {
		finds(t, "three times", way, rows(u, u, u), row(g, x(4), ann), 0, 1, 2)
		finds(t, "with others between", way, rows(u, other, u, nil, other, u), u, 0, 2, 5)
		finds(t, "the very list that is looked for", way, rows(other, u), u, 1)
	}
	many := slices.Repeat(rows(u, nil, other), 2000)
	var want []int
	for i := range 2000 {
		want = append(want, 3*i)
	}
	for _, way := range ways() {
		finds(t, "thousands", way, many, row(g, x(1), ann), want...)
	}
}

// Terms longer than MaxTerm come of these: they count.
func TestLength(t *testing.T) {
	becomes(t, "MaxTerm codes", row(x(0)), one(api.MaxTerm, ann))
	meet(t, "one more", append(row(g, x(0)), one(45, x(0))...), append(row(g), append(one(4, x(0)), x(1))...))
	meet(t, "much more", append(row(g, x(0)), one(40, x(0))...), append(row(g), append(one(40, x(0)), x(1))...))
	meet(t, "much more, in an atom", append(row(likes, x(0)), one(46, x(0))...), append(row(likes), append(one(46, x(0)), x(1))...))
	meet(t, "an expression of more than MaxTerm codes", append(row(h, x(0), x(0)), one(40, ann)...), append(append(row(h), one(40, ann)...), x(0), x(1)))
	never(t, "longer, then different symbols", slices.Concat(row(between, x(0)), one(40, x(0)), row(ann)), slices.Concat(row(between), one(40, x(0)), row(x(1), bob)))
	never(t, "longer, then held by itself", slices.Concat(row(between, x(0)), one(40, x(0)), row(x(0))), slices.Concat(row(between), one(40, x(0)), row(x(1), x(1))))
}

// levels makes two terms: the variables 0 to n belong to the one and to the other by turns, and each becomes a term that holds the next one three times. The last variable becomes end.
func levels(n, end int) ([]int, []int) {
	var sides [2][]int
	for v := range n {
		own, other := v%2, 1-v%2
		sides[own] = append(sides[own], g, x(v))
		sides[other] = append(sides[other], g, h, x(v+1), x(v+1), x(v+1))
	}
	own, other := n%2, 1-n%2
	sides[own] = append(sides[own], x(n))
	sides[other] = append(sides[other], end)
	return sides[0], sides[1]
}

// Of n levels, the first variable stands for a term of more than 3 to the power of n codes.
func TestGrowing(t *testing.T) {
	for n := 1; n <= 13; n++ {
		what := strconv.Itoa(n) + " levels"
		a, b := levels(n, ann)
		meet(t, what, a, b)
		a, b = levels(n, x(n-1))
		never(t, what+", the last but one held by itself", a, b)
		a, b = levels(n, x((n+1)%2))
		never(t, what+", one of the first held by itself", a, b)
	}
}

// An expression may have MaxVar + 1 variables, and the other one as many: more than there are numbers.
func TestEveryVariable(t *testing.T) {
	all := slices.Concat(row(likes), chain(api.MaxVar), row(ann))
	back := slices.Clone(all)
	for i, code := range back {
		if code < 0 {
			back[i] = x(api.MaxVar) - 1 - code
		}
	}
	equals(t, "all of them", all, all)
	equals(t, "all of them, backwards", all, back)
	ones := slices.Clone(all)
	for i, code := range ones {
		if code < 0 {
			ones[i] = x(11)
		}
	}
	becomes(t, "all of them, one of them", all, ones)
	ground := slices.Clone(ones)
	for i, code := range ground {
		if code < 0 {
			ground[i] = bob
		}
	}
	becomes(t, "all of them, a constant", all, ground)
	becomes(t, "one of them, a constant", ones, ground)
	ground[2] = ann
	never(t, "one of them, two constants", ones, ground)
	becomes(t, "all of them, two constants", all, ground)
	// The same variable stands in two places of the one that are two variables of the other, and the others are shifted by one place.
	shifted := slices.Concat(row(g, x(0)), chain(api.MaxVar-1))
	meet(t, "a long round", slices.Concat(row(likes), shifted, row(ann)), slices.Concat(row(likes), chain(api.MaxVar), row(x(0))))
}

func wrongSignatures() map[string][]api.Sym {
	return map[string][]api.Sym{
		"nil":             nil,
		"without =":       symbols()[rains:],
		"a name twice":    append(symbols(), symbols()[f]),
		"arity below 0":   append(symbols(), api.Sym{Name: "z", Kind: api.KindFun, Arity: -1, Weight: 1}),
		"arity too great": append(symbols(), api.Sym{Name: "z", Kind: api.KindFun, Arity: math.MaxInt, Weight: 1}),
		"wrong kind":      append(symbols(), api.Sym{Name: "z", Kind: math.MinInt, Weight: 1}),
		"weight 0":        append(symbols(), api.Sym{Name: "z", Kind: api.KindFun}),
		"too many":        slices.Repeat(symbols(), 2),
	}
}

// wrongExpressions are neither expressions nor empty.
func wrongExpressions() map[string][]int {
	return map[string][]int{
		"cut short":               row(f),
		"cut short behind":        row(g, ann),
		"two terms":               row(ann, ann),
		"two variables":           row(x(0), x(1)),
		"a term and more":         row(f, ann, ann),
		"an atom cut short":       row(likes, ann),
		"no arguments":            row(eq),
		"an atom and more":        row(tall, ann, ann),
		"an atom without, and":    row(rains, ann),
		"two atoms":               row(rains, rains),
		"a predicate in a term":   row(f, rains),
		"an atom in an atom":      row(tall, tall, ann),
		"a predicate in an atom":  row(likes, ann, snows),
		"a term, an atom":         row(ann, rains),
		"no symbol":               row(beyond),
		"no symbol within":        row(f, beyond),
		"no variable":             row(x(api.MaxVar + 1)),
		"no variable within":      row(tall, x(api.MaxVar+1)),
		"greatest code":           row(math.MaxInt),
		"least code":              row(math.MinInt),
		"least code within":       row(f, math.MinInt),
		"one code too long":       one(api.MaxTerm+1, ann),
		"an atom, one too long":   append(row(tall), one(api.MaxTerm+1, x(0))...),
		"much too long":           slices.Repeat(row(f), 1<<16),
		"an atom much too long":   append(row(tall), one(1<<16, ann)...),
		"rows that are too short": row(between, g, ann, bob, x(0)),
	}
}

func refusedPaths(t *testing.T, what string, sig []api.Sym, r []int) {
	t.Helper()
	if got, e := path.Paths(sig, r); e != api.ErrPathForm || got != nil {
		t.Errorf("P12.1 %s: Paths = %v, %d", what, got, e)
	}
}

func refused(t *testing.T, what string, sig []api.Sym, ts [][]int, r []int, way int) {
	t.Helper()
	if got, e := path.Find(sig, ts, r, way); e != api.ErrPathForm || got != nil {
		t.Errorf("P12.2 %s: Find by %d = %v, %d", what, way, got, e)
	}
}

func TestWrongExpressions(t *testing.T) {
	refusedPaths(t, "nil", symbols(), nil)
	refusedPaths(t, "empty", symbols(), row())
	for _, way := range ways() {
		refused(t, "nil", symbols(), nil, nil, way)
		refused(t, "empty", symbols(), rows(row(ann), nil), row(), way)
	}
	for what, wrong := range wrongExpressions() {
		refusedPaths(t, what, symbols(), wrong)
		for _, way := range ways() {
			for _, ts := range [][][]int{nil, {nil}, {row(ann)}, {row(rains)}, {wrong}} {
				refused(t, what, symbols(), ts, wrong, way)
			}
		}
	}
}

// One of many that is none, in every place, behind what is found and behind what is not.
func TestWrongAmongMany(t *testing.T) {
	for what, wrong := range wrongExpressions() {
		for _, r := range rows(row(x(0)), row(ann), row(rains), row(tall, x(0)), row(eq, x(0), x(0))) {
			for _, way := range ways() {
				refused(t, what+" alone", symbols(), rows(wrong), r, way)
				refused(t, what+" first", symbols(), rows(wrong, row(ann), r), r, way)
				refused(t, what+" in the middle", symbols(), rows(r, nil, row(snows), wrong, r), r, way)
				refused(t, what+" last", symbols(), rows(row(bob), r, r, row(), wrong), r, way)
			}
		}
	}
}

func TestWrongWays(t *testing.T) {
	for _, way := range []int{-1, 3, 4, -2, 256, 1 << 32, 1<<32 + 1, math.MinInt, math.MaxInt} {
		for _, ts := range [][][]int{nil, {nil}, {row(ann)}, {row(x(0)), row(rains)}, {row(f)}} {
			for _, r := range rows(row(x(0)), row(ann), row(rains), row(f), nil) {
				refused(t, "way", symbols(), ts, r, way)
			}
		}
		for what, sig := range wrongSignatures() {
			refused(t, "way, "+what, sig, rows(row(f)), row(beyond), way)
		}
	}
}

func TestWrongSignatures(t *testing.T) {
	for what, sig := range wrongSignatures() {
		for _, r := range rows(nil, row(x(0)), row(ann), row(f, x(0)), row(eq, x(0), x(1)), row(rains), row(f), row(beyond, x(0))) {
			refusedPaths(t, what, sig, r)
			for _, way := range ways() {
				refused(t, what, sig, nil, r, way)
				refused(t, what, sig, rows(nil), r, way)
				refused(t, what, sig, rows(r, row(f)), r, way)
			}
		}
	}
	refusedPaths(t, "a symbol of the spare capacity", symbols()[:f], row(f, ann))
	refused(t, "a symbol of the spare capacity", symbols()[:f], nil, row(f, ann), api.WayInst)
	refused(t, "a symbol of the spare capacity", symbols()[:f], rows(row(f, ann)), row(ann), api.WayInst)
}
