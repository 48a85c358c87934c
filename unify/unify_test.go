package unify_test

import (
	"math"
	"slices"
	"strconv"
	"testing"

	"quaere/api"
	"quaere/bind"
	"quaere/unify"
)

// The codes of symbols().
const (
	eq = iota
	likes
	ann
	f
	g
	h
	sk
	sk1
	sk2
	beyond // no symbol has this code
)

func symbols() []api.Sym {
	return []api.Sym{
		eq:    {Name: "=", Kind: api.KindPred, Arity: 2, Weight: 1},
		likes: {Name: "likes", Kind: api.KindPred, Arity: 2, Weight: 1},
		ann:   {Name: "ann", Kind: api.KindFun, Arity: 0, Weight: 2},
		f:     {Name: "f", Kind: api.KindFun, Arity: 1, Weight: 3},
		g:     {Name: "g", Kind: api.KindFun, Arity: 2, Weight: 5},
		h:     {Name: "h", Kind: api.KindFun, Arity: api.MaxArity, Weight: 7},
		sk:    {Name: "sk", Kind: api.KindSkolem, Arity: 0, Weight: api.MaxWeight},
		sk1:   {Name: "sk1", Kind: api.KindSkolem, Arity: 1, Weight: 3},
		sk2:   {Name: "sk2", Kind: api.KindSkolem, Arity: 2, Weight: 13},
	}
}

// x is the code of the variable v.
func x(v int) int {
	return -1 - v
}

// row joins lists of codes.
func row(parts ...[]int) []int {
	return slices.Concat(parts...)
}

func some(n int, codes ...int) []int {
	return slices.Repeat(codes, n)
}

// one is a term of n codes that ends with the code last.
func one(n, last int) []int {
	return row(some(n-1, f), []int{last})
}

// to is the bind of v to the term that the codes are.
func to(v int, codes ...int) api.Bind {
	return api.Bind{Var: v, Term: codes}
}

func binds(list ...api.Bind) []api.Bind {
	return list
}

func sameBinds(a, b []api.Bind) bool {
	return slices.EqualFunc(a, b, func(p, q api.Bind) bool {
		return p.Var == q.Var && slices.Equal(p.Term, q.Term)
	})
}

// put replaces the variables of r that have a bind, however long the result is.
func put(s []api.Bind, r []int) []int {
	var out []int
next:
	for _, code := range r {
		for _, b := range s {
			if code == x(b.Var) {
				out = append(out, b.Term...)
				continue next
			}
		}
		out = append(out, code)
	}
	return out
}

// fits looks at what P4.1 says of every substitution that is returned.
func fits(t *testing.T, a, b []int, s []api.Bind) {
	t.Helper()
	if !bind.May(symbols(), s) {
		t.Errorf("P4.1: Unify(%v, %v): %v is not valid", a, b, s)
	}
	if !slices.Equal(put(s, a), put(s, b)) {
		t.Errorf("P4.1: Unify(%v, %v): not equal by %v", a, b, s)
	}
	for _, p := range s {
		for _, q := range s {
			if slices.Contains(p.Term, x(q.Var)) {
				t.Errorf("P4.1: Unify(%v, %v): variable %d has a bind and stands in a Term: %v", a, b, q.Var, s)
			}
		}
		if p.Term[0] < x(p.Var) {
			t.Errorf("P4.1: Unify(%v, %v): variable %d is replaced by a greater one: %v", a, b, p.Var, s)
		}
	}
}

// answers calls Unify both ways round, for what it is to answer.
func answers(t *testing.T, what string, a, b []int, want []api.Bind, wantOk bool, wantE api.Errno) {
	t.Helper()
	for _, p := range [][2][]int{{a, b}, {b, a}} {
		got, ok, e := unify.Unify(symbols(), p[0], p[1])
		if e != wantE || ok != wantOk || !sameBinds(got, want) {
			t.Errorf("P4.1 %s: Unify(%v, %v) = %v, %t, %d; want %v, %t, %d", what, p[0], p[1], got, ok, e, want, wantOk, wantE)
		}
		if ok {
			fits(t, p[0], p[1], got)
		}
	}
}

func unified(t *testing.T, what string, a, b []int, want ...api.Bind) {
	t.Helper()
	answers(t, what, a, b, want, true, api.OK)
}

func apart(t *testing.T, what string, a, b []int) {
	t.Helper()
	answers(t, what, a, b, nil, false, api.OK)
}

func tooLong(t *testing.T, what string, a, b []int) {
	t.Helper()
	answers(t, what, a, b, nil, false, api.ErrUnifyLong)
}

func refused(t *testing.T, what string, a, b []int) {
	t.Helper()
	answers(t, what, a, b, nil, false, api.ErrUnifyForm)
}

func TestTable(t *testing.T) {
	unified(t, "first line", []int{x(2), x(1)}, []int{x(0), f, x(2)}, to(1, f, x(0)), to(2, x(0)))
	apart(t, "second line", []int{x(0)}, []int{f, x(0)})
}

func TestNothingToReplace(t *testing.T) {
	unified(t, "no terms", nil, nil)
	unified(t, "no terms, not nil", []int{}, nil)
	for _, r := range [][]int{{ann}, {sk}, {x(0)}, {x(api.MaxVar)}, {g, x(3), f, ann}, {x(1), ann, h, x(1), x(2), sk}, some(api.MaxTerm, x(5)), one(api.MaxTerm, ann)} {
		unified(t, "a row with itself", r, slices.Clone(r))
	}
}

func TestDifferentNumbersOfTerms(t *testing.T) {
	apart(t, "none and one", nil, []int{x(0)})
	apart(t, "none and one", nil, []int{ann})
	apart(t, "one more behind", []int{x(0)}, []int{x(0), x(1)})
	apart(t, "one more before", []int{ann, x(0)}, []int{x(0)})
	apart(t, "as many codes", []int{f, ann}, []int{x(0), ann})
	apart(t, "as many codes of one variable", []int{g, x(0), x(0)}, some(3, x(0)))
	apart(t, "the same beginning", []int{f, ann, ann}, []int{f, ann})
	apart(t, "MaxTerm terms and one less", some(api.MaxTerm, x(0)), some(api.MaxTerm-1, x(0)))
	apart(t, "too long as far as they go", row(some(2, f), []int{x(1)}, one(44, ann)), row([]int{x(0), x(1)}, []int{ann}))
}

func TestDifferentSymbols(t *testing.T) {
	apart(t, "constants", []int{ann}, []int{sk})
	apart(t, "arities", []int{f, ann}, []int{ann})
	apart(t, "arities with as many codes", []int{g, f, x(0), x(1)}, []int{h, x(0), x(1), x(2)})
	apart(t, "names", []int{f, x(0)}, []int{sk1, x(0)})
	apart(t, "names of arity 2", []int{g, x(0), x(1)}, []int{sk2, x(0), x(1)})
	apart(t, "in the first argument", []int{h, ann, x(0), x(1)}, []int{h, sk, x(0), x(1)})
	apart(t, "in the middle argument", []int{h, x(0), ann, x(1)}, []int{h, x(0), sk, x(1)})
	apart(t, "in the last argument", []int{h, x(0), x(1), ann}, []int{h, x(0), x(1), sk})
	apart(t, "deep inside", []int{f, f, g, x(0), f, ann}, []int{f, f, g, x(0), f, sk})
	apart(t, "in the first term", []int{ann, x(0)}, []int{sk, x(0)})
	apart(t, "in the last term", []int{x(0), ann}, []int{x(0), sk})
	apart(t, "for one variable", []int{x(0), x(0)}, []int{ann, sk})
	apart(t, "for one variable, inside", []int{g, x(0), x(0)}, []int{g, f, x(1), g, x(1), x(1)})
	apart(t, "for one variable, deeper", []int{g, x(0), x(0)}, []int{g, f, ann, f, sk})
	apart(t, "for two variables that are one", []int{x(0), x(1), x(0)}, []int{ann, sk, x(1)})
	apart(t, "by way of a third variable", []int{x(0), x(1), x(2), x(2)}, []int{ann, sk, x(0), x(1)})
	apart(t, "by way of terms", []int{x(0), x(1), f, x(0)}, []int{ann, sk, f, x(1)})
	apart(t, "in all of MaxTerm codes the last", one(api.MaxTerm, ann), one(api.MaxTerm, sk))
}

func TestVariables(t *testing.T) {
	unified(t, "a constant", []int{x(0)}, []int{ann}, to(0, ann))
	unified(t, "MaxVar", []int{x(api.MaxVar)}, []int{sk}, to(api.MaxVar, sk))
	unified(t, "a term", []int{x(3)}, []int{g, ann, x(1)}, to(3, g, ann, x(1)))
	unified(t, "a greater variable in a lesser one's Term", []int{x(0)}, []int{f, x(1)}, to(0, f, x(1)))
	unified(t, "on both sides", []int{g, x(0), ann}, []int{g, sk, x(1)}, to(0, sk), to(1, ann))
	unified(t, "inside", []int{f, f, x(2)}, []int{f, f, h, ann, x(0), x(1)}, to(2, h, ann, x(0), x(1)))
	unified(t, "in each argument", []int{h, x(2), x(1), x(0)}, []int{h, ann, f, sk, sk}, to(0, sk), to(1, f, sk), to(2, ann))
	unified(t, "several times", []int{h, x(4), x(4), x(4)}, []int{h, x(4), f, ann, x(4)}, to(4, f, ann))
	unified(t, "terms of a skolem function", []int{sk2, x(0), sk1, x(1)}, []int{sk2, sk1, x(1), x(2)}, to(0, sk1, x(1)), to(2, sk1, x(1)))
	unified(t, "a variable's Terms are joined", []int{x(5), x(5)}, []int{g, x(0), ann, g, sk, x(1)}, to(0, sk), to(1, ann), to(5, g, sk, ann))
	unified(t, "a chain of Terms", []int{x(0), x(1), x(2)}, []int{f, x(1), f, x(2), ann}, to(0, f, f, ann), to(1, f, ann), to(2, ann))
	unified(t, "a chain of Terms, upwards", []int{x(2), x(1), x(0)}, []int{f, x(1), f, x(0), ann}, to(0, ann), to(1, f, ann), to(2, f, f, ann))
	unified(t, "numbers that are codes of symbols", []int{x(ann), x(f)}, []int{ann, f, x(ann)}, to(ann, ann), to(f, f, ann))
	unified(t, "an atom's arguments", []int{x(0), f, x(0), x(1)}, []int{ann, x(1), f, x(0)}, to(0, ann), to(1, f, ann))
}

func TestIdentifiedVariables(t *testing.T) {
	unified(t, "the least", []int{x(0)}, []int{x(1)}, to(1, x(0)))
	unified(t, "0 and MaxVar", []int{x(api.MaxVar)}, []int{x(0)}, to(api.MaxVar, x(0)))
	unified(t, "exchanged", []int{x(0), x(1)}, []int{x(1), x(0)}, to(1, x(0)))
	unified(t, "two classes", []int{x(0), x(3)}, []int{x(2), x(1)}, to(2, x(0)), to(3, x(1)))
	unified(t, "two classes become one", []int{x(4), x(3), x(4)}, []int{x(1), x(2), x(3)}, to(2, x(1)), to(3, x(1)), to(4, x(1)))
	unified(t, "inside terms", []int{f, x(4), x(9)}, []int{x(9), f, x(1)}, to(4, x(1)), to(9, f, x(1)))
	unified(t, "in a Term", []int{x(7), x(5)}, []int{f, x(5), x(2)}, to(5, x(2)), to(7, f, x(2)))
	unified(t, "in a Term, the Term last", []int{x(5), x(7)}, []int{x(2), f, x(5)}, to(5, x(2)), to(7, f, x(2)))
	unified(t, "in the lesser one's Term", []int{x(5), x(0)}, []int{x(2), f, x(5)}, to(0, f, x(2)), to(5, x(2)))
	unified(t, "and then a Term", []int{x(5), x(2)}, []int{x(2), f, x(9)}, to(2, f, x(9)), to(5, f, x(9)))
	unified(t, "by equal Terms", []int{x(0), x(0)}, []int{g, x(6), x(3), g, x(3), x(8)}, to(0, g, x(3), x(3)), to(6, x(3)), to(8, x(3)))
	unified(t, "crosswise", []int{g, x(1), x(2)}, []int{g, x(2), x(1)}, to(2, x(1)))
}

// orders are all orders of the numbers.
func orders(list []int) [][]int {
	if len(list) == 0 {
		return [][]int{nil}
	}
	var out [][]int
	for i, n := range list {
		for _, rest := range orders(slices.Delete(slices.Clone(list), i, i+1)) {
			out = append(out, row([]int{n}, rest))
		}
	}
	return out
}

// Variables are identified in a chain and around one of them, in every order; then one of them has a Term too.
func TestChains(t *testing.T) {
	for _, order := range orders([]int{x(2), x(3), x(9), x(17), x(23)}) {
		n := len(order) - 1
		var least, term []api.Bind
		for _, v := range []int{2, 3, 9, 17, 23} {
			least = append(least, to(v, x(2)))
			term = append(term, to(v, f, x(0)))
		}
		for _, p := range [][2][]int{
			{order[:n], order[1:]},
			{some(n, order[0]), order[1:]},
			{row(order[:2], order[3:]), row(order[1:2], some(n-1, order[2]))},
		} {
			unified(t, "a chain", p[0], p[1], least[1:]...)
			unified(t, "a Term last", row(p[0], order[n:]), row(p[1], []int{f, x(0)}), term...)
			unified(t, "a Term first", row([]int{f, x(0)}, p[0]), row(order[2:3], p[1]), term...)
			apart(t, "a chain to a term of its own", row(p[0], order[n:]), row(p[1], []int{f, order[1]}))
		}
		if t.Failed() {
			t.FailNow()
		}
	}
}

func TestEveryVariable(t *testing.T) {
	var up, down []int
	var least, ground []api.Bind
	for v := range api.MaxVar {
		up, down = append(up, x(v)), append(down, x(v+1))
		least = append(least, to(v+1, x(0)))
	}
	for v := range api.MaxVar + 1 {
		ground = append(ground, to(v, ann))
	}
	unified(t, "one chain", up, down, least...)
	unified(t, "all with the greatest", up, some(api.MaxVar, x(api.MaxVar)), least...)
	unified(t, "a constant for all", row(up, []int{x(11)}), row(down, []int{ann}), ground...)
	slices.Reverse(up)
	slices.Reverse(down)
	unified(t, "one chain, from its end", up, down, least...)
}

func TestHeldBySelf(t *testing.T) {
	apart(t, "at once", []int{x(7)}, []int{f, x(7)})
	apart(t, "in the middle", []int{x(7)}, []int{h, ann, x(7), x(1)})
	apart(t, "deep", []int{x(0)}, one(api.MaxTerm, x(0)))
	apart(t, "inside terms", []int{f, x(1)}, []int{f, f, x(1)})
	apart(t, "two of each other", []int{x(0), x(1)}, []int{f, x(1), f, x(0)})
	apart(t, "by another variable", []int{x(0), x(0)}, []int{x(1), f, x(1)})
	apart(t, "by another variable, the Term first", []int{x(0), x(1)}, []int{f, x(1), x(0)})
	apart(t, "by arguments", []int{g, x(0), x(1)}, []int{g, f, x(1), x(0)})
	apart(t, "by arguments that are one", []int{f, x(0), x(2), x(0)}, []int{x(2), f, x(1), f, x(1)})
	apart(t, "by equal Terms", []int{x(0), x(0)}, []int{g, x(1), x(2), g, f, x(2), x(1)})
	apart(t, "by a repeated Term", []int{x(0), x(0)}, []int{f, x(1), f, f, x(1)})
	apart(t, "behind a part that can be", []int{x(4), x(0)}, []int{ann, f, x(0)})
	unified(t, "itself alone", []int{x(7)}, []int{x(7)})
	unified(t, "itself within equal terms", []int{g, x(7), f, x(7)}, []int{g, x(7), f, x(7)})
	unified(t, "twice in another's Term", []int{x(0), x(1)}, []int{g, x(1), x(1), f, x(2)}, to(0, g, f, x(2), f, x(2)), to(1, f, x(2)))
	for n := 1; n <= 16; n++ {
		var a, b []int
		for v := range n {
			a, b = append(a, x(v)), append(b, f, x((v+1)%n))
		}
		apart(t, "a round of "+strconv.Itoa(n), a, b)
		var ring []api.Bind
		for v := range n - 1 {
			ring = append(ring, to(v, one(n-v, x(n-1))...))
		}
		unified(t, "a round of "+strconv.Itoa(n)+" without its last", a[:n-1], b[:2*n-2], ring...)
	}
}

func TestLength(t *testing.T) {
	most := one(api.MaxTerm, ann)
	unified(t, "MaxTerm codes at once", []int{x(0)}, most, to(0, most...))
	unified(t, "MaxTerm codes at once for MaxVar", []int{x(23)}, most, to(23, most...))
	unified(t, "MaxTerm codes by two", row([]int{x(3)}, one(47, ann)), []int{f, x(5), x(5)}, to(3, most...), to(5, one(47, ann)...))
	tooLong(t, "one more by two", row([]int{x(3)}, one(47, ann)), []int{f, f, x(5), x(5)})
	unified(t, "MaxTerm codes by two, the other way", row(one(47, ann), []int{x(5)}), []int{x(3), f, x(3)}, to(3, one(47, ann)...), to(5, most...))
	tooLong(t, "one more by two, the other way", row(one(47, ann), []int{x(5)}), []int{x(3), f, f, x(3)})
	unified(t, "MaxTerm codes by three arguments", row([]int{x(1)}, some(3, x(0))), row([]int{h, x(0), x(0), g, x(0), ann, x(0)}, one(15, ann), []int{x(0)}), to(0, one(15, ann)...), to(1, row([]int{h}, one(15, ann), one(15, ann), []int{g}, one(15, ann), []int{ann})...))
	tooLong(t, "one more by three arguments", row([]int{x(1)}, some(3, x(0))), row([]int{h, x(0), f, x(0), g, x(0), ann, x(0)}, one(15, ann), []int{x(0)}))
	unified(t, "MaxTerm codes with a variable at the end", row([]int{x(3)}, one(47, x(9))), []int{f, x(5), x(5)}, to(3, one(48, x(9))...), to(5, one(47, x(9))...))
	unified(t, "rows become longer than Terms", some(3, x(0)), row(one(40, ann), []int{x(1), x(2)}), to(0, one(40, ann)...), to(1, one(40, ann)...), to(2, one(40, ann)...))
	unified(t, "terms become longer than Terms", []int{g, x(0), x(0), x(0)}, row([]int{g, x(1), x(2)}, one(40, ann)), to(0, one(40, ann)...), to(1, one(40, ann)...), to(2, one(40, ann)...))
	tooLong(t, "the same for a variable", []int{g, x(0), x(0), x(0), x(3)}, row([]int{g, x(1), x(2)}, one(40, ann), []int{g, x(1), x(2)}))
}

// system is pairs of terms that become two rows of about the same length.
type system struct {
	a, b []int
}

func (s *system) add(small, great []int) {
	if len(s.a) < len(s.b) {
		small, great = great, small
	}
	s.a, s.b = row(s.a, small), row(s.b, great)
}

// growing has n pairs, each of them a variable and a symbol with the one before it in all arguments: n+1 variables, from first on or down to it.
func (s *system) growing(code, n, first int, down bool) (int, int) {
	v := func(i int) int {
		if down {
			return x(first + n - i)
		}
		return x(first + i)
	}
	for i := range n {
		s.add([]int{v(i + 1)}, row([]int{code}, some(symbols()[code].Arity, v(i))))
	}
	return v(0), v(n)
}

// Terms that grow with every pair: what is too long must not be written out, nor gone through part by part.
func TestGrowingTerms(t *testing.T) {
	for _, c := range []struct{ code, fit, most int }{{f, 23, 23}, {g, 4, 23}, {h, 3, 18}} {
		for _, down := range []bool{false, true} {
			for n := 1; n <= c.most; n++ {
				var s system
				first, last := s.growing(c.code, n, 0, down)
				what := symbols()[c.code].Name + " " + strconv.Itoa(n)
				got, ok, e := unify.Unify(symbols(), s.a, s.b)
				switch {
				case n > c.fit:
					tooLong(t, what, s.a, s.b)
				case e != api.OK || !ok || len(got) != n:
					t.Errorf("P4.1 %s: %v, %t, %d", what, got, ok, e)
				default:
					fits(t, s.a, s.b, got)
				}
				apart(t, what+", the last in the first", row(s.a, []int{first}), row(s.b, []int{last}))
				apart(t, what+", then another symbol", row(s.a, []int{last}), row(s.b, []int{ann}))
				apart(t, what+", another symbol first", row([]int{last}, s.a), row([]int{ann}, s.b))
				apart(t, what+", then one term more", row(s.a, []int{last}), s.b)
			}
		}
	}
}

// Two lists of growing Terms are made equal at their ends.
func TestTwoGrowingTerms(t *testing.T) {
	for n := 1; n <= 11; n++ {
		for _, down := range []bool{false, true} {
			var s system
			_, end := s.growing(g, n, 0, down)
			_, otherEnd := s.growing(g, n, n+1, !down)
			s.add([]int{end}, []int{otherEnd})
			got, ok, e := unify.Unify(symbols(), s.a, s.b)
			switch {
			case n > 4:
				tooLong(t, "two of "+strconv.Itoa(n), s.a, s.b)
			case e != api.OK || !ok || len(got) != 2*n+1:
				t.Errorf("P4.1 two of %d: %v, %t, %d", n, got, ok, e)
			default:
				fits(t, s.a, s.b, got)
			}
		}
	}
}

func wrongSignatures() map[string][]api.Sym {
	return map[string][]api.Sym{
		"nil":             nil,
		"without =":       symbols()[likes:],
		"a name twice":    append(symbols(), symbols()[f]),
		"arity below 0":   append(symbols(), api.Sym{Name: "z", Kind: api.KindFun, Arity: -1, Weight: 1}),
		"arity too great": append(symbols(), api.Sym{Name: "z", Kind: api.KindFun, Arity: math.MaxInt, Weight: 1}),
		"wrong kind":      append(symbols(), api.Sym{Name: "z", Kind: math.MinInt, Weight: 1}),
		"weight 0":        append(symbols(), api.Sym{Name: "z", Kind: api.KindFun}),
		"too many":        slices.Repeat(symbols(), 3),
	}
}

func wrongRows() map[string][]int {
	return map[string][]int{
		"cut short":        {f},
		"cut short behind": {ann, g, ann},
		"an atom":          {likes, ann, ann},
		"an equation":      {eq, x(0), x(1)},
		"a predicate":      {ann, likes},
		"inside":           {f, likes},
		"no symbol":        {beyond},
		"no variable":      {x(api.MaxVar + 1)},
		"greatest code":    {math.MaxInt},
		"least code":       {math.MinInt},
		"too long":         some(api.MaxTerm+1, ann),
		"one term, long":   one(api.MaxTerm+1, x(0)),
		"much too long":    some(1<<16, x(0)),
	}
}

func TestWrongRows(t *testing.T) {
	for what, wrong := range wrongRows() {
		for _, r := range [][]int{nil, {x(0)}, {ann}, {f, ann}, {x(0), x(1)}, some(api.MaxTerm, x(0))} {
			refused(t, what, wrong, r)
		}
		refused(t, what+", with itself", wrong, slices.Clone(wrong))
		for other, r := range wrongRows() {
			refused(t, what+" and "+other, wrong, r)
		}
	}
}

func TestWrongSignatures(t *testing.T) {
	for what, sig := range wrongSignatures() {
		for _, p := range [][2][]int{{nil, nil}, {{x(0)}, {x(0)}}, {{x(0)}, {ann}}, {{x(0)}, {f, x(0)}}, {nil, {ann}}, {{f}, {likes}}} {
			if got, ok, e := unify.Unify(sig, p[0], p[1]); e != api.ErrUnifyForm || ok || got != nil {
				t.Errorf("P4.1 %s: %v, %t, %d", what, got, ok, e)
			}
		}
	}
}

// The signature decides whether a code is a symbol, and how many arguments it has.
func TestSignatureIsRead(t *testing.T) {
	for arity := range api.MaxArity + 1 {
		more := append(symbols(), api.Sym{Name: "z", Kind: api.KindFun, Arity: arity, Weight: 1})
		term := row([]int{beyond}, some(arity, ann))
		refused(t, "no symbol", []int{x(0)}, term)
		got, ok, e := unify.Unify(more, []int{x(0)}, term)
		if e != api.OK || !ok || !sameBinds(got, binds(to(0, term...))) {
			t.Errorf("P4.1 arity %d: %v, %t, %d", arity, got, ok, e)
		}
		got, ok, e = unify.Unify(more, row(term, []int{ann}), []int{x(0), x(1)})
		if e != api.OK || !ok || !sameBinds(got, binds(to(0, term...), to(1, ann))) {
			t.Errorf("P4.1 arity %d: %v, %t, %d", arity, got, ok, e)
		}
	}
	if got, ok, e := unify.Unify(symbols()[:f], []int{x(0)}, []int{f, ann}); e != api.ErrUnifyForm || ok || got != nil {
		t.Errorf("P4.1 a symbol of the spare capacity: %v, %t, %d", got, ok, e)
	}
	if got, ok, e := unify.Unify(symbols()[:1], []int{x(3)}, []int{x(2)}); e != api.OK || !ok || !sameBinds(got, binds(to(3, x(2)))) {
		t.Errorf("P4.1 equality alone: %v, %t, %d", got, ok, e)
	}
}

// What is wrong comes first, also behind parts that could not be made equal or would be too long; that there is no substitution comes before a Term that would be too long.
func TestFirstError(t *testing.T) {
	long, short := row([]int{x(3)}, one(44, ann), []int{ann, ann}), []int{f, f, f, f, f, x(5), x(5), ann, ann}
	tooLong(t, "R6", long, short)
	wrong := slices.Clone(short)
	wrong[len(wrong)-1] = f
	refused(t, "R6: too long, then no row", long, wrong)
	refused(t, "R6: different symbols, then no row", []int{ann, ann}, []int{sk, f})
	refused(t, "R6: held by itself, then no row", []int{x(0), ann}, []int{f, x(0), likes})
	refused(t, "R6: different numbers of terms, no row", []int{ann}, []int{ann, ann, f})
	wrong[len(wrong)-1] = sk
	apart(t, "R6: too long, then different symbols", long, wrong)
	apart(t, "R6: too long, one term more", long, short[:len(short)-1])
	for what, sig := range wrongSignatures() {
		if got, ok, e := unify.Unify(sig, long, short); e != api.ErrUnifyForm || ok || got != nil {
			t.Errorf("P4.1 R6 %s, too long: %v, %t, %d", what, got, ok, e)
		}
	}
}
