package match_test

import (
	"math"
	"slices"
	"strconv"
	"testing"

	"quaere/api"
	"quaere/bind"
	"quaere/match"
)

// The codes of symbols().
const (
	eq = iota
	likes
	ann
	f
	g
	h
	sk
	sk1
	sk2
	beyond // no symbol has this code
)

func symbols() []api.Sym {
	return []api.Sym{
		eq:    {Name: "=", Kind: api.KindPred, Arity: 2, Weight: 1},
		likes: {Name: "likes", Kind: api.KindPred, Arity: 2, Weight: 1},
		ann:   {Name: "ann", Kind: api.KindFun, Arity: 0, Weight: 2},
		f:     {Name: "f", Kind: api.KindFun, Arity: 1, Weight: 3},
		g:     {Name: "g", Kind: api.KindFun, Arity: 2, Weight: 5},
		h:     {Name: "h", Kind: api.KindFun, Arity: api.MaxArity, Weight: 7},
		sk:    {Name: "sk", Kind: api.KindSkolem, Arity: 0, Weight: api.MaxWeight},
		sk1:   {Name: "sk1", Kind: api.KindSkolem, Arity: 1, Weight: 3},
		sk2:   {Name: "sk2", Kind: api.KindSkolem, Arity: 2, Weight: 13},
	}
}

// x is the code of the variable v.
func x(v int) int {
	return -1 - v
}

// row joins lists of codes.
func row(parts ...[]int) []int {
	return slices.Concat(parts...)
}

func some(n int, codes ...int) []int {
	return slices.Repeat(codes, n)
}

// one is a term of n codes that ends with the code last.
func one(n, last int) []int {
	return row(some(n-1, f), []int{last})
}

// to is the bind of v to the term that the codes are.
func to(v int, codes ...int) api.Bind {
	return api.Bind{Var: v, Term: codes}
}

func sameBinds(a, b []api.Bind) bool {
	return slices.EqualFunc(a, b, func(p, q api.Bind) bool {
		return p.Var == q.Var && slices.Equal(p.Term, q.Term)
	})
}

// put replaces the variables of r that have a bind, however long the result is.
func put(s []api.Bind, r []int) []int {
	var out []int
next:
	for _, code := range r {
		for _, b := range s {
			if code == x(b.Var) {
				out = append(out, b.Term...)
				continue next
			}
		}
		out = append(out, code)
	}
	return out
}

// fits looks at what P5.1 says of every substitution that is returned.
func fits(t *testing.T, a, b []int, s []api.Bind) {
	t.Helper()
	if !bind.May(symbols(), s) {
		t.Errorf("P5.1: Match(%v, %v): %v is not valid", a, b, s)
	}
	if after, e := bind.Apply(symbols(), s, a); e != api.OK || !slices.Equal(after, b) || !slices.Equal(put(s, a), b) {
		t.Errorf("P5.1: Match(%v, %v): by %v it becomes %v, %d", a, b, s, after, e)
	}
	for _, p := range s {
		if !slices.Contains(a, x(p.Var)) {
			t.Errorf("P5.1: Match(%v, %v): variable %d has a bind and is none of the first row: %v", a, b, p.Var, s)
		}
	}
}

func answers(t *testing.T, what string, a, b []int, want []api.Bind, wantOk bool, wantE api.Errno) {
	t.Helper()
	got, ok, e := match.Match(symbols(), a, b)
	if e != wantE || ok != wantOk || !sameBinds(got, want) {
		t.Errorf("P5.1 %s: Match(%v, %v) = %v, %t, %d; want %v, %t, %d", what, a, b, got, ok, e, want, wantOk, wantE)
	}
	if ok {
		fits(t, a, b, got)
	}
}

func matched(t *testing.T, what string, a, b []int, want ...api.Bind) {
	t.Helper()
	answers(t, what, a, b, want, true, api.OK)
}

func apart(t *testing.T, what string, a, b []int) {
	t.Helper()
	answers(t, what, a, b, nil, false, api.OK)
}

func bothApart(t *testing.T, what string, a, b []int) {
	t.Helper()
	apart(t, what, a, b)
	apart(t, what+", the other way round", b, a)
}

// refused calls Match both ways round: a list that is not a row is wrong on either side.
func refused(t *testing.T, what string, a, b []int) {
	t.Helper()
	answers(t, what, a, b, nil, false, api.ErrMatchForm)
	answers(t, what+", the other way round", b, a, nil, false, api.ErrMatchForm)
}

func TestTable(t *testing.T) {
	matched(t, "its line", []int{x(0), x(1)}, []int{x(1), x(0)}, to(0, x(1)), to(1, x(0)))
}

func TestNothingToReplace(t *testing.T) {
	matched(t, "no terms", nil, nil)
	matched(t, "no terms, not nil", []int{}, nil)
	matched(t, "no terms, not nil, second", nil, []int{})
	for _, r := range [][]int{{ann}, {sk}, {x(0)}, {x(api.MaxVar)}, {f, x(0)}, {g, x(3), f, ann}, {x(1), ann, h, x(1), x(2), sk}, some(api.MaxTerm, x(5)), one(api.MaxTerm, ann), one(api.MaxTerm, x(9))} {
		matched(t, "a row with itself", r, slices.Clone(r))
		matched(t, "one list as both rows", r, r)
	}
}

func TestDifferentNumbersOfTerms(t *testing.T) {
	bothApart(t, "none and a variable", nil, []int{x(0)})
	bothApart(t, "none and a constant", nil, []int{ann})
	bothApart(t, "none and a term", nil, []int{g, x(0), ann})
	bothApart(t, "one more behind", []int{x(0)}, []int{x(0), x(1)})
	bothApart(t, "one more before", []int{ann, x(0)}, []int{x(0)})
	bothApart(t, "a variable for two constants", []int{x(0)}, []int{ann, sk})
	bothApart(t, "two variables for one term", []int{x(0), x(1)}, []int{g, ann, sk})
	bothApart(t, "as many codes", []int{f, ann}, []int{x(0), ann})
	bothApart(t, "as many codes of one variable", []int{g, x(0), x(0)}, some(3, x(0)))
	bothApart(t, "the same beginning", []int{f, ann, ann}, []int{f, ann})
	bothApart(t, "the same variable behind", []int{x(0), x(0)}, []int{x(0)})
	bothApart(t, "MaxTerm terms and one less", some(api.MaxTerm, x(0)), some(api.MaxTerm-1, x(0)))
	bothApart(t, "MaxTerm terms and none", some(api.MaxTerm, x(0)), nil)
	apart(t, "the last of a for no term", []int{x(0), x(1), x(2)}, []int{h, ann, ann, ann, f, ann})
	apart(t, "the last of b from no term", []int{x(0), x(1)}, []int{h, ann, ann, ann, f, ann, sk})
}

func TestDifferentSymbols(t *testing.T) {
	bothApart(t, "constants", []int{ann}, []int{sk})
	bothApart(t, "arities", []int{f, ann}, []int{ann})
	bothApart(t, "arities with as many codes", []int{g, f, x(0), x(1)}, []int{h, x(0), x(1), x(2)})
	bothApart(t, "arities with as many codes and terms", []int{f, x(0), g, x(0), x(1)}, []int{g, x(0), x(1), f, x(0)})
	bothApart(t, "names", []int{f, x(0)}, []int{sk1, x(0)})
	bothApart(t, "names of arity 2", []int{g, x(0), x(1)}, []int{sk2, x(0), x(1)})
	bothApart(t, "in the first argument", []int{h, ann, x(0), x(1)}, []int{h, sk, x(0), x(1)})
	bothApart(t, "in the middle argument", []int{h, x(0), ann, x(1)}, []int{h, x(0), sk, x(1)})
	bothApart(t, "in the last argument", []int{h, x(0), x(1), ann}, []int{h, x(0), x(1), sk})
	bothApart(t, "deep inside", []int{f, f, g, x(0), f, ann}, []int{f, f, g, x(0), f, sk})
	bothApart(t, "in the first term", []int{ann, x(0)}, []int{sk, x(0)})
	bothApart(t, "in the last term", []int{x(0), ann}, []int{x(0), sk})
	bothApart(t, "terms exchanged", []int{ann, sk}, []int{sk, ann})
	bothApart(t, "in all of MaxTerm codes the first", row([]int{f}, one(47, ann)), row([]int{sk1}, one(47, ann)))
	bothApart(t, "in all of MaxTerm codes the last", one(api.MaxTerm, ann), one(api.MaxTerm, sk))
	apart(t, "behind a term for a variable", []int{x(0), ann}, []int{g, ann, ann, sk})
	apart(t, "inside, behind a term for a variable", []int{h, x(0), x(1), ann}, []int{h, f, f, ann, g, ann, ann, sk})
}

func TestVariables(t *testing.T) {
	matched(t, "a constant", []int{x(0)}, []int{ann}, to(0, ann))
	matched(t, "a skolem constant for MaxVar", []int{x(api.MaxVar)}, []int{sk}, to(api.MaxVar, sk))
	matched(t, "a lesser variable", []int{x(3)}, []int{x(1)}, to(3, x(1)))
	matched(t, "a greater variable", []int{x(1)}, []int{x(3)}, to(1, x(3)))
	matched(t, "0 for MaxVar", []int{x(api.MaxVar)}, []int{x(0)}, to(api.MaxVar, x(0)))
	matched(t, "MaxVar for 0", []int{x(0)}, []int{x(api.MaxVar)}, to(0, x(api.MaxVar)))
	matched(t, "a term", []int{x(3)}, []int{g, ann, x(1)}, to(3, g, ann, x(1)))
	matched(t, "inside", []int{f, f, x(2)}, []int{f, f, h, ann, x(0), x(1)}, to(2, h, ann, x(0), x(1)))
	matched(t, "in each argument", []int{h, x(2), x(1), x(0)}, []int{h, ann, f, sk, sk}, to(0, sk), to(1, f, sk), to(2, ann))
	matched(t, "terms of a skolem function", []int{sk2, x(0), sk1, x(1)}, []int{sk2, sk1, ann, sk1, sk1, x(7)}, to(0, sk1, ann), to(1, sk1, x(7)))
	matched(t, "terms of every arity", []int{x(0), x(1), x(2), x(3), x(4)}, []int{ann, f, ann, g, ann, sk, h, ann, f, sk, ann, x(9)}, to(0, ann), to(1, f, ann), to(2, g, ann, sk), to(3, h, ann, f, sk, ann), to(4, x(9)))
	matched(t, "arguments with arguments", []int{g, x(0), x(1)}, []int{g, h, g, ann, sk, f, ann, sk, g, f, f, ann, ann}, to(0, h, g, ann, sk, f, ann, sk), to(1, g, f, f, ann, ann))
	matched(t, "an argument that the term before could swallow", []int{g, x(0), x(1), ann}, []int{g, f, ann, g, ann, ann, ann}, to(0, f, ann), to(1, g, ann, ann))
	matched(t, "numbers that are codes of symbols", []int{x(ann), x(f)}, []int{ann, f, x(ann)}, to(ann, ann), to(f, f, x(ann)))
	matched(t, "two variables for one", []int{x(0), x(1)}, []int{x(5), x(5)}, to(0, x(5)), to(1, x(5)))
	matched(t, "two variables for one term", []int{g, x(0), x(1)}, []int{g, f, ann, f, ann}, to(0, f, ann), to(1, f, ann))
}

// A variable of b is a constant: nothing comes for it, and no symbol becomes it.
func TestConstantsOfB(t *testing.T) {
	for _, r := range [][]int{{ann}, {sk}, {f, ann}, {f, x(0)}, {f, x(5)}, {g, x(0), x(1)}, one(46, ann)} {
		for v := range api.MaxVar + 1 {
			apart(t, "against a variable", r, []int{x(v)})
			apart(t, "inside, against a variable", row([]int{g, x(2)}, r), []int{g, ann, x(v)})
			apart(t, "behind, against a variable", row([]int{x(3)}, r), []int{f, ann, x(v)})
		}
	}
	apart(t, "MaxTerm codes", one(api.MaxTerm, ann), []int{x(0)})
	apart(t, "the last of MaxTerm codes", one(api.MaxTerm, ann), one(api.MaxTerm, x(0)))
	apart(t, "in the first argument", []int{g, ann, x(1)}, []int{g, x(0), x(1)})
	apart(t, "in the last argument", []int{g, x(0), ann}, []int{g, x(0), x(1)})
	apart(t, "behind the variable's own term", []int{x(0), ann}, []int{ann, x(0)})
	apart(t, "before the variable's own term", []int{ann, x(0)}, []int{x(0), ann})
	apart(t, "what unifies by both sides", []int{g, x(0), ann}, []int{g, sk, x(1)})
	apart(t, "what unifies by the other side", []int{x(0), x(0)}, []int{x(1), ann})
}

func TestRepeatedVariables(t *testing.T) {
	matched(t, "a constant twice", []int{x(0), x(0)}, []int{ann, ann}, to(0, ann))
	matched(t, "a term twice", []int{g, x(4), x(4)}, []int{g, f, x(1), f, x(1)}, to(4, f, x(1)))
	matched(t, "three times", []int{h, x(4), x(4), x(4)}, []int{h, g, ann, x(2), g, ann, x(2), g, ann, x(2)}, to(4, g, ann, x(2)))
	matched(t, "at different depths", []int{x(0), f, x(0), g, f, x(0), x(0)}, []int{f, ann, f, f, ann, g, f, f, ann, f, ann}, to(0, f, ann))
	matched(t, "with another between", []int{x(2), x(1), x(2)}, []int{ann, sk, ann}, to(1, sk), to(2, ann))
	matched(t, "a variable twice", []int{x(0), x(0)}, []int{x(7), x(7)}, to(0, x(7)))
	matched(t, "itself twice", []int{x(0), x(0), x(1)}, []int{x(0), x(0), ann}, to(1, ann))
	matched(t, "MaxTerm times", some(api.MaxTerm, x(8)), some(api.MaxTerm, sk), to(8, sk))
	apart(t, "two constants", []int{x(0), x(0)}, []int{ann, sk})
	apart(t, "two variables", []int{x(0), x(0)}, []int{x(1), x(2)})
	apart(t, "another and itself", []int{x(0), x(0)}, []int{x(1), x(0)})
	apart(t, "itself and another", []int{x(0), x(0)}, []int{x(0), x(1)})
	apart(t, "itself and a constant", []int{x(0), x(0)}, []int{x(0), ann})
	apart(t, "a constant and itself", []int{x(0), x(0)}, []int{ann, x(0)})
	apart(t, "itself and a term with it", []int{x(0), x(0)}, []int{x(0), f, x(0)})
	apart(t, "a term with it and itself", []int{x(0), x(0)}, []int{f, x(0), x(0)})
	apart(t, "a variable and a constant", []int{x(0), x(0)}, []int{x(1), ann})
	apart(t, "inside a term", []int{g, x(0), x(0)}, []int{g, f, ann, f, sk})
	apart(t, "terms with the same first symbol", []int{g, x(0), x(0)}, []int{g, g, ann, ann, g, ann, sk})
	apart(t, "one the beginning of the other's codes", []int{x(0), x(0)}, []int{f, ann, f, f, ann})
	apart(t, "the other the beginning of the one's codes", []int{x(0), x(0)}, []int{f, f, ann, f, ann})
	apart(t, "variables in the terms", []int{g, x(0), x(0)}, []int{g, f, x(1), f, x(2)})
	apart(t, "terms that unify", []int{x(0), x(0)}, []int{g, x(1), ann, g, ann, x(1)})
	apart(t, "the third of three", []int{h, x(4), x(4), x(4)}, []int{h, ann, ann, sk})
	apart(t, "the second of three", []int{h, x(4), x(4), x(4)}, []int{h, ann, sk, ann})
	apart(t, "the first of three", []int{h, x(4), x(4), x(4)}, []int{h, sk, ann, ann})
	apart(t, "the last of MaxTerm", some(api.MaxTerm, x(8)), row(some(api.MaxTerm-1, sk), []int{ann}))
}

// The variables of both rows are apart, whatever their numbers: a variable may come for a term in which it stands.
func TestHeldBySelf(t *testing.T) {
	matched(t, "at once", []int{x(7)}, []int{f, x(7)}, to(7, f, x(7)))
	matched(t, "in the middle", []int{x(7)}, []int{h, ann, x(7), x(1)}, to(7, h, ann, x(7), x(1)))
	matched(t, "deep", []int{x(0)}, one(api.MaxTerm, x(0)), to(0, one(api.MaxTerm, x(0))...))
	matched(t, "inside terms", []int{f, x(1)}, []int{f, f, x(1)}, to(1, f, x(1)))
	matched(t, "twice", []int{x(1), x(1)}, []int{f, x(1), f, x(1)}, to(1, f, x(1)))
	matched(t, "two of each other", []int{x(0), x(1)}, []int{f, x(1), f, x(0)}, to(0, f, x(1)), to(1, f, x(0)))
	matched(t, "a chain is one step", []int{x(0), x(1), x(2)}, []int{f, x(1), f, x(2), ann}, to(0, f, x(1)), to(1, f, x(2)), to(2, ann))
	apart(t, "and different ones", []int{x(1), x(1)}, []int{f, x(1), f, f, x(1)})
	apart(t, "the other way", []int{f, x(7)}, []int{x(7)})
}

func TestSameVariables(t *testing.T) {
	matched(t, "one stays, one not", []int{x(0), x(1)}, []int{x(0), x(0)}, to(1, x(0)))
	matched(t, "one not, one stays", []int{x(0), x(1)}, []int{x(1), x(1)}, to(0, x(1)))
	matched(t, "stays inside", []int{g, x(3), x(4)}, []int{g, x(3), f, x(4)}, to(4, f, x(4)))
	matched(t, "three in a round", []int{x(0), x(1), x(2)}, []int{x(1), x(2), x(0)}, to(0, x(1)), to(1, x(2)), to(2, x(0)))
	matched(t, "exchanged inside", []int{g, x(5), f, x(2)}, []int{g, x(2), f, x(5)}, to(2, x(5)), to(5, x(2)))
	matched(t, "only some of b are of a", []int{x(1)}, []int{g, x(0), x(1)}, to(1, g, x(0), x(1)))
	matched(t, "MaxVar stays", []int{x(api.MaxVar), x(0)}, []int{x(api.MaxVar), ann}, to(0, ann))
}

// Binds come in the order of their variables, wherever those stand.
func TestOrderOfBinds(t *testing.T) {
	matched(t, "from the greatest on", []int{x(23), x(11), x(4), x(0)}, []int{ann, sk, f, ann, x(2)}, to(0, x(2)), to(4, f, ann), to(11, sk), to(23, ann))
	matched(t, "mixed", []int{h, x(9), x(2), x(17), x(2)}, []int{h, ann, sk, ann, sk}, to(2, sk), to(9, ann), to(17, ann))
	matched(t, "some stay", []int{x(8), x(6), x(4), x(2)}, []int{ann, x(6), sk, x(2)}, to(4, sk), to(8, ann))
	var up, next, away []int
	var byNext, byAway []api.Bind
	for v := range api.MaxVar + 1 {
		up, next, away = append(up, x(v)), append(next, x((v+1)%(api.MaxVar+1))), append(away, f, x(v))
		byNext, byAway = append(byNext, to(v, x((v+1)%(api.MaxVar+1)))), append(byAway, to(v, f, x(v)))
	}
	matched(t, "every variable to the next", up, next, byNext...)
	matched(t, "every variable to a term with it", up, away, byAway...)
	matched(t, "every variable stays", up, up)
	slices.Reverse(up)
	slices.Reverse(next)
	matched(t, "every variable to the next, from the last", up, next, byNext...)
}

func TestLength(t *testing.T) {
	most := one(api.MaxTerm, ann)
	for _, v := range []int{0, 11, api.MaxVar} {
		matched(t, "MaxTerm codes", []int{x(v)}, most, to(v, most...))
		matched(t, "MaxTerm codes with the variable", []int{x(v)}, one(api.MaxTerm, x(v)), to(v, one(api.MaxTerm, x(v))...))
		matched(t, "MaxTerm codes for the last", one(api.MaxTerm, x(v)), most, to(v, ann))
		refused(t, "one more", []int{x(v)}, one(api.MaxTerm+1, ann))
	}
	wide := row([]int{h}, one(15, ann), one(15, x(0)), one(17, sk))
	matched(t, "MaxTerm codes by three arguments", []int{x(2)}, wide, to(2, wide...))
	matched(t, "its arguments", []int{h, x(2), x(1), x(0)}, wide, to(0, one(17, sk)...), to(1, one(15, x(0))...), to(2, one(15, ann)...))
	matched(t, "MaxTerm terms", some(api.MaxTerm/2, x(2), x(1)), some(api.MaxTerm/2, ann, sk), to(1, sk), to(2, ann))
	matched(t, "two halves", []int{x(0), x(1)}, row(one(24, ann), one(24, sk)), to(0, one(24, ann)...), to(1, one(24, sk)...))
	matched(t, "one term twice", []int{x(0), x(0)}, row(one(24, ann), one(24, ann)), to(0, one(24, ann)...))
	apart(t, "one term twice, but for the last", []int{x(0), x(0)}, row(one(24, ann), one(24, sk)))
	for n := 1; n <= api.MaxTerm; n++ {
		matched(t, "a term of "+strconv.Itoa(n), []int{x(6)}, one(n, x(6)), only(to(6, one(n, x(6))...), n > 1)...)
		matched(t, "a variable behind "+strconv.Itoa(n), one(n, x(6)), one(n, ann), to(6, ann))
	}
}

func only(b api.Bind, is bool) []api.Bind {
	if is {
		return []api.Bind{b}
	}
	return nil
}

func wrongSignatures() map[string][]api.Sym {
	return map[string][]api.Sym{
		"nil":             nil,
		"without =":       symbols()[likes:],
		"a name twice":    append(symbols(), symbols()[f]),
		"arity below 0":   append(symbols(), api.Sym{Name: "z", Kind: api.KindFun, Arity: -1, Weight: 1}),
		"arity too great": append(symbols(), api.Sym{Name: "z", Kind: api.KindFun, Arity: math.MaxInt, Weight: 1}),
		"wrong kind":      append(symbols(), api.Sym{Name: "z", Kind: math.MinInt, Weight: 1}),
		"weight 0":        append(symbols(), api.Sym{Name: "z", Kind: api.KindFun}),
		"too many":        slices.Repeat(symbols(), 3),
	}
}

func wrongRows() map[string][]int {
	return map[string][]int{
		"cut short":        {f},
		"cut short behind": {ann, g, ann},
		"an atom":          {likes, ann, ann},
		"an equation":      {eq, x(0), x(1)},
		"a predicate":      {ann, likes},
		"inside":           {f, likes},
		"no symbol":        {beyond},
		"no variable":      {x(api.MaxVar + 1)},
		"greatest code":    {math.MaxInt},
		"least code":       {math.MinInt},
		"too long":         some(api.MaxTerm+1, ann),
		"one term, long":   one(api.MaxTerm+1, x(0)),
		"much too long":    some(1<<16, x(0)),
	}
}

func TestWrongRows(t *testing.T) {
	for what, wrong := range wrongRows() {
		for _, r := range [][]int{nil, {x(0)}, {ann}, {f, ann}, {x(0), x(1)}, some(api.MaxTerm, x(0))} {
			refused(t, what, wrong, r)
		}
		refused(t, what+", with itself", wrong, slices.Clone(wrong))
		for other, r := range wrongRows() {
			refused(t, what+" and "+other, wrong, r)
		}
	}
}

func TestWrongSignatures(t *testing.T) {
	for what, sig := range wrongSignatures() {
		for _, p := range [][2][]int{{nil, nil}, {{x(0)}, {x(0)}}, {{x(0)}, {ann}}, {{x(0)}, {f, x(0)}}, {nil, {ann}}, {{ann}, nil}, {{f}, {likes}}} {
			if got, ok, e := match.Match(sig, p[0], p[1]); e != api.ErrMatchForm || ok || got != nil {
				t.Errorf("P5.1 %s: %v, %t, %d", what, got, ok, e)
			}
		}
	}
}

// The signature decides whether a code is a symbol, and how many arguments it has.
func TestSignatureIsRead(t *testing.T) {
	for arity := range api.MaxArity + 1 {
		more := append(symbols(), api.Sym{Name: "z", Kind: api.KindFun, Arity: arity, Weight: 1})
		term := row([]int{beyond}, some(arity, ann))
		refused(t, "no symbol", []int{x(0)}, term)
		got, ok, e := match.Match(more, []int{x(0)}, term)
		if e != api.OK || !ok || !sameBinds(got, []api.Bind{to(0, term...)}) {
			t.Errorf("P5.1 arity %d: %v, %t, %d", arity, got, ok, e)
		}
		got, ok, e = match.Match(more, []int{x(0), x(1)}, row(term, []int{ann}))
		if e != api.OK || !ok || !sameBinds(got, []api.Bind{to(0, term...), to(1, ann)}) {
			t.Errorf("P5.1 arity %d: %v, %t, %d", arity, got, ok, e)
		}
	}
	if got, ok, e := match.Match(symbols()[:f], []int{x(0)}, []int{f, ann}); e != api.ErrMatchForm || ok || got != nil {
		t.Errorf("P5.1 a symbol of the spare capacity: %v, %t, %d", got, ok, e)
	}
	if got, ok, e := match.Match(symbols()[:1], []int{x(3)}, []int{x(2)}); e != api.OK || !ok || !sameBinds(got, []api.Bind{to(3, x(2))}) {
		t.Errorf("P5.1 equality alone: %v, %t, %d", got, ok, e)
	}
}

// What is wrong comes first, also behind parts that do not match.
func TestFirstError(t *testing.T) {
	refused(t, "R6: different symbols, then no row", []int{ann, ann}, []int{sk, f})
	refused(t, "R6: a variable as a constant, then no row", []int{ann, ann}, []int{x(0), likes})
	refused(t, "R6: different terms for one variable, then no row", []int{x(0), x(0), ann}, []int{ann, sk, beyond})
	refused(t, "R6: different numbers of terms, no row", []int{ann}, []int{ann, ann, f})
	refused(t, "R6: no terms, no row", nil, []int{f})
	refused(t, "R6: different symbols, then too long", []int{ann}, row([]int{sk}, some(api.MaxTerm, ann)))
	refused(t, "R6: a row's own beginning", []int{g, x(0), ann}, []int{g, x(0)})
}
