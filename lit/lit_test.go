package lit_test

import (
	"math"
	"slices"
	"testing"

	"quaere/api"
	"quaere/lit"
)

// The codes of symbols().
const (
	eq = iota
	likes
	knows
	rains
	tall
	ann
	bob
	cid
	f
	g
	h
	sk
	between
	snows
	beyond // no symbol has this code
)

// symbols has predicates before and behind the functions, and symbols that differ by their codes alone, and by their Weights alone.
func symbols() []api.Sym {
	return []api.Sym{
		eq:      {Name: "=", Kind: api.KindPred, Arity: 2, Weight: 1},
		likes:   {Name: "likes", Kind: api.KindPred, Arity: 2, Weight: 1},
		knows:   {Name: "knows", Kind: api.KindPred, Arity: 2, Weight: 4},
		rains:   {Name: "rains", Kind: api.KindPred, Arity: 0, Weight: 3},
		tall:    {Name: "tall", Kind: api.KindPred, Arity: 1, Weight: 2},
		ann:     {Name: "ann", Kind: api.KindFun, Arity: 0, Weight: 1},
		bob:     {Name: "bob", Kind: api.KindFun, Arity: 0, Weight: 1},
		cid:     {Name: "cid", Kind: api.KindFun, Arity: 0, Weight: 2},
		f:       {Name: "f", Kind: api.KindFun, Arity: 1, Weight: 1},
		g:       {Name: "g", Kind: api.KindSkolem, Arity: 2, Weight: 3},
		h:       {Name: "h", Kind: api.KindFun, Arity: api.MaxArity, Weight: 5},
		sk:      {Name: "sk", Kind: api.KindSkolem, Arity: 0, Weight: api.MaxWeight},
		between: {Name: "between", Kind: api.KindPred, Arity: 3, Weight: 1},
		snows:   {Name: "snows", Kind: api.KindPred, Arity: 0, Weight: api.MaxWeight},
	}
}

// x is the code of the variable v.
func x(v int) int {
	return -1 - v
}

func is(atom ...int) api.Lit {
	return api.Lit{Atom: atom}
}

func not(atom ...int) api.Lit {
	return api.Lit{Neg: true, Atom: atom}
}

func opposite(l api.Lit) api.Lit {
	return api.Lit{Neg: !l.Neg, Atom: slices.Clone(l.Atom)}
}

// one is a term of n codes that ends with the code last.
func one(n, last int) []int {
	return slices.Concat(slices.Repeat([]int{f}, n-1), []int{last})
}

// longest are atoms whose rows have just MaxTerm codes.
func longest() [][]int {
	return [][]int{
		slices.Concat([]int{tall}, one(api.MaxTerm, ann)),
		slices.Concat([]int{tall}, one(api.MaxTerm, x(api.MaxVar))),
		slices.Concat([]int{tall}, slices.Repeat([]int{g}, 23), []int{f, x(0)}, slices.Repeat([]int{x(0)}, 23)),
		slices.Concat([]int{eq}, one(24, ann), one(24, bob)),
		slices.Concat([]int{knows, sk}, one(api.MaxTerm-1, sk)),
		slices.Concat([]int{between}, one(16, x(0)), one(16, ann), one(16, x(1))),
	}
}

func someAtoms() [][]int {
	return slices.Concat([][]int{
		{rains}, {snows}, {eq, x(0), x(0)}, {eq, x(0), x(1)}, {eq, ann, x(0)}, {eq, f, x(0), g, x(0), x(1)},
		{likes, x(1), x(0)}, {knows, f, ann, bob}, {tall, x(api.MaxVar)}, {tall, sk}, {between, ann, x(0), g, x(1), x(0)},
		{between, x(0), x(1), x(2)}, {likes, h, ann, bob, cid, sk},
	}, longest())
}

// wrongAtoms are no atoms: empty, a term, a row of terms, an atom of too few or too many terms, too long, codes of nothing.
func wrongAtoms() [][]int {
	return [][]int{
		nil, {}, {x(0)}, {x(api.MaxVar)}, {ann}, {sk}, {f, ann}, {g, x(0), x(1)}, one(api.MaxTerm, ann),
		{ann, ann}, {x(0), x(1)}, {f, ann, x(0)}, {ann, rains}, {x(0), rains}, {x(0), eq, ann, ann},
		{eq}, {eq, ann}, {eq, f, ann}, {eq, ann, f}, {eq, ann, ann, ann}, {eq, x(0), x(1), x(2)}, {tall}, {tall, f}, {tall, ann, ann},
		{rains, ann}, {rains, x(0)}, {rains, rains}, {between}, {between, ann, ann}, {between, ann, ann, ann, ann},
		{eq, ann, rains}, {eq, rains, ann}, {tall, tall, ann}, {tall, f, rains}, {eq, eq, ann, ann, ann},
		{tall, x(api.MaxVar + 1)}, {tall, beyond}, {eq, ann, beyond}, {beyond}, {beyond, ann}, {x(api.MaxVar + 1)},
		{math.MinInt}, {math.MaxInt}, {tall, math.MinInt}, {tall, math.MaxInt}, {math.MaxInt, ann},
		slices.Concat([]int{tall}, one(api.MaxTerm+1, ann)),
		slices.Concat([]int{eq}, one(24, ann), one(25, bob)),
		slices.Concat([]int{between, ann}, one(24, ann), one(24, x(0))),
		slices.Repeat([]int{rains}, 1000000), slices.Repeat([]int{f}, 1000000),
	}
}

// wrongSignatures are not valid, though all codes below beyond are symbols in most of them.
func wrongSignatures() [][]api.Sym {
	out := [][]api.Sym{nil, {}, symbols()[1:], append(symbols(), symbols()[ann]), slices.Repeat(symbols(), 2), slices.Repeat(symbols(), 1000)}
	for _, s := range []api.Sym{
		{Name: "", Weight: 1}, {Name: "X", Weight: 1}, {Name: "abcdefghi", Weight: 1}, {Name: "z", Kind: 3, Weight: 1}, {Name: "z", Kind: -1, Weight: 1},
		{Name: "z", Arity: api.MaxArity + 1, Weight: 1}, {Name: "z", Arity: -1, Weight: 1}, {Name: "z"}, {Name: "z", Weight: api.MaxWeight + 1},
		{Name: "z", Kind: math.MinInt, Arity: math.MaxInt, Weight: math.MinInt},
	} {
		out = append(out, append(symbols(), s))
	}
	weight := symbols()
	weight[eq].Weight = 2
	return append(out, weight)
}

// P7.1.

func TestMay(t *testing.T) {
	for _, atom := range someAtoms() {
		if !lit.May(symbols(), is(atom...)) || !lit.May(symbols(), not(atom...)) {
			t.Errorf("P7.1: May(%v) = false", atom)
		}
	}
	alone := symbols()[:1]
	if !lit.May(alone, not(eq, x(0), x(1))) || lit.May(alone, is(rains)) || lit.May(alone, is(eq, ann, ann)) {
		t.Error("P7.1: with equality alone")
	}
}

func TestMayNot(t *testing.T) {
	for _, atom := range wrongAtoms() {
		if lit.May(symbols(), api.Lit{Atom: atom}) || lit.May(symbols(), api.Lit{Neg: true, Atom: atom}) {
			t.Errorf("P7.1: May = true for a wrong atom of %d codes: %v", len(atom), atom[:min(len(atom), 50)])
		}
	}
	for i, sig := range wrongSignatures() {
		if lit.May(sig, is(eq, x(0), x(0))) || lit.May(sig, not(rains)) || lit.May(sig, api.Lit{}) {
			t.Errorf("P7.1: May = true for the wrong signature %d", i)
		}
	}
	for _, last := range []api.Sym{{Name: "z", Kind: api.KindFun, Weight: 1}, {Name: "z", Kind: api.KindSkolem, Arity: 1, Weight: 1}} {
		sig := append(symbols(), last)
		if lit.May(sig, is(beyond)) || lit.May(sig, is(beyond, ann)) {
			t.Errorf("P7.1: a term of %v as an atom", last)
		}
	}
}

func weighs(t *testing.T, want int, atom ...int) {
	t.Helper()
	for _, l := range []api.Lit{is(atom...), not(atom...)} {
		if got, e := lit.Weight(symbols(), l); got != want || e != api.OK {
			t.Errorf("P7.1: Weight(%v) = %d, %d; want %d", l, got, e, want)
		}
	}
}

func TestWeight(t *testing.T) {
	weighs(t, 3, rains)
	weighs(t, api.MaxWeight, snows)
	weighs(t, 3, tall, ann)
	weighs(t, 4, tall, cid)
	weighs(t, 2+api.MaxWeight, tall, sk)
	weighs(t, 3, eq, ann, bob)
	weighs(t, 3, likes, ann, bob)
	weighs(t, 6, knows, ann, bob)
	weighs(t, 4, between, ann, ann, ann)
	weighs(t, 1+2+5, likes, f, ann, g, ann, bob)
	weighs(t, 4+5+1+1+2+1, knows, h, ann, bob, cid, x(3))
}

// A variable has Weight 1, whatever its number is and how often it occurs.
func TestWeightOfVariables(t *testing.T) {
	weighs(t, 3, tall, x(0))
	weighs(t, 3, tall, x(api.MaxVar))
	weighs(t, 3, eq, x(0), x(0))
	weighs(t, 3, eq, x(0), x(1))
	weighs(t, 4, between, x(7), x(7), x(7))
	weighs(t, 1+4+api.MaxWeight, between, f, x(2), f, x(2), sk)
	weighs(t, 1+5+3+2, likes, h, x(0), x(1), x(2), f, x(3))
}

func TestWeightOfLongAtoms(t *testing.T) {
	for n := 1; n <= api.MaxTerm; n++ {
		weighs(t, 2+n, slices.Concat([]int{tall}, one(n, x(0)))...)
		weighs(t, 2+n-1+api.MaxWeight, slices.Concat([]int{tall}, one(n, sk))...)
	}
	weighs(t, 1+api.MaxTerm, longest()[3]...)
	weighs(t, 4+2*api.MaxWeight+api.MaxTerm-2, longest()[4]...)
	weighs(t, 2+23*3+25, longest()[2]...)
}

func TestWeightRefused(t *testing.T) {
	for _, atom := range wrongAtoms() {
		for _, neg := range []bool{false, true} {
			if got, e := lit.Weight(symbols(), api.Lit{Neg: neg, Atom: atom}); got != 0 || e != api.ErrLitForm {
				t.Errorf("P7.1, R2: Weight of a wrong atom of %d codes: %d, %d", len(atom), got, e)
			}
		}
	}
	for i, sig := range wrongSignatures() {
		for _, l := range []api.Lit{is(eq, x(0), x(0)), not(rains), {}} {
			if got, e := lit.Weight(sig, l); got != 0 || e != api.ErrLitForm {
				t.Errorf("P7.1, R2: Weight(%v) with the wrong signature %d: %d, %d", l, i, got, e)
			}
		}
	}
}

// P7.2.

func answers(t *testing.T, what string, l, m api.Lit, want int, wantE api.Errno) {
	t.Helper()
	if got, e := lit.Compare(symbols(), l, m); got != want || e != wantE {
		t.Errorf("P7.2 %s: Compare(%v, %v) = %d, %d; want %d, %d", what, l, m, got, e, want, wantE)
	}
}

func isMore(t *testing.T, what string, l, m api.Lit) {
	t.Helper()
	answers(t, what, l, m, api.OrderMore, api.OK)
	answers(t, what+", the other way round", m, l, api.OrderLess, api.OK)
}

func TestEqualLiterals(t *testing.T) {
	for _, atom := range someAtoms() {
		for _, l := range []api.Lit{is(atom...), not(atom...)} {
			answers(t, "with its copy", l, api.Lit{Neg: l.Neg, Atom: slices.Clone(atom)}, api.OrderSame, api.OK)
			answers(t, "with itself", l, l, api.OrderSame, api.OK)
		}
	}
}

func TestOpposites(t *testing.T) {
	for _, atom := range someAtoms() {
		isMore(t, "with Neg and without", not(atom...), opposite(not(atom...)))
		isMore(t, "with Neg and without, one list as both", not(atom...), is(atom...))
	}
}

// everyNeg looks at two different atoms: there Neg says nothing.
func everyNeg(t *testing.T, what string, a, b []int, want int) {
	t.Helper()
	back := map[int]int{api.OrderMore: api.OrderLess, api.OrderLess: api.OrderMore, api.OrderNone: api.OrderNone}[want]
	for _, l := range []api.Lit{is(a...), not(a...)} {
		for _, m := range []api.Lit{is(b...), not(b...)} {
			answers(t, what, l, m, want, api.OK)
			answers(t, what+", the other way round", m, l, back, api.OK)
		}
	}
}

func TestUnlikeAtoms(t *testing.T) {
	everyNeg(t, "by weight", []int{tall, cid}, []int{tall, ann}, api.OrderMore)
	everyNeg(t, "a weightier predicate, a lighter atom", []int{knows, ann, bob}, []int{between, sk, sk, sk}, api.OrderLess)
	everyNeg(t, "by the predicate's weight alone", []int{knows, x(0), x(1)}, []int{likes, x(0), x(1)}, api.OrderMore)
	everyNeg(t, "by the predicate's code", []int{likes, x(0), x(1)}, []int{eq, x(0), x(1)}, api.OrderMore)
	everyNeg(t, "by the predicate's code, arities", []int{tall, ann}, []int{rains}, api.OrderMore)
	everyNeg(t, "by the first argument", []int{eq, bob, ann}, []int{eq, ann, bob}, api.OrderMore)
	everyNeg(t, "by the last argument", []int{between, x(0), x(1), bob}, []int{between, x(0), x(1), ann}, api.OrderMore)
	everyNeg(t, "equations, sides exchanged", []int{eq, f, x(0), x(0)}, []int{eq, x(0), f, x(0)}, api.OrderMore)
	everyNeg(t, "without arguments", []int{snows}, []int{rains}, api.OrderMore)
	everyNeg(t, "one variable more", []int{likes, x(0), x(1)}, []int{eq, x(0), ann}, api.OrderMore)
	everyNeg(t, "no variable in the lighter one", []int{between, x(0), x(1), x(2)}, []int{rains}, api.OrderMore)
	everyNeg(t, "of just MaxTerm codes", longest()[1], slices.Concat([]int{tall}, one(api.MaxTerm-1, x(api.MaxVar))), api.OrderMore)
	everyNeg(t, "of just MaxTerm codes, the last differs", slices.Concat([]int{tall}, one(api.MaxTerm, bob)), longest()[0], api.OrderMore)
}

func TestNoneIsMore(t *testing.T) {
	everyNeg(t, "other variables", []int{tall, x(0)}, []int{tall, x(1)}, api.OrderNone)
	everyNeg(t, "variables exchanged", []int{eq, x(0), x(1)}, []int{eq, x(1), x(0)}, api.OrderNone)
	everyNeg(t, "another predicate", []int{knows, x(0), x(1)}, []int{eq, x(0), x(2)}, api.OrderNone)
	everyNeg(t, "heavier, a variable fewer", []int{tall, sk}, []int{tall, x(0)}, api.OrderNone)
	everyNeg(t, "heavier, a variable less often", []int{eq, sk, x(0)}, []int{eq, x(0), x(0)}, api.OrderNone)
	everyNeg(t, "the greatest weight without variables", []int{snows}, []int{tall, x(0)}, api.OrderNone)
	everyNeg(t, "of just MaxTerm codes", longest()[0], longest()[1], api.OrderNone)
}

func TestCompareRefused(t *testing.T) {
	for _, atom := range wrongAtoms() {
		for _, wrong := range []api.Lit{{Atom: atom}, {Neg: true, Atom: atom}} {
			for _, right := range []api.Lit{is(rains), not(eq, x(0), ann), is(longest()[0]...)} {
				answers(t, "a wrong atom first", wrong, right, 0, api.ErrLitForm)
				answers(t, "a wrong atom last", right, wrong, 0, api.ErrLitForm)
			}
			answers(t, "a wrong atom twice", wrong, wrong, 0, api.ErrLitForm)
			answers(t, "a wrong atom and its opposite", wrong, opposite(wrong), 0, api.ErrLitForm)
		}
	}
	answers(t, "two terms", is(ann), is(f, ann), 0, api.ErrLitForm)
	answers(t, "two different wrong ones", is(eq, ann), not(), 0, api.ErrLitForm)
	for i, sig := range wrongSignatures() {
		for _, l := range []api.Lit{is(eq, x(0), x(0)), not(rains), {}} {
			if got, e := lit.Compare(sig, l, opposite(l)); got != 0 || e != api.ErrLitForm {
				t.Errorf("P7.2, R2: Compare(%v) with the wrong signature %d: %d, %d", l, i, got, e)
			}
		}
	}
}

// P7.3.

func topsAre(t *testing.T, what string, ls []api.Lit, want ...int) {
	t.Helper()
	if got, e := lit.Tops(symbols(), ls); !slices.Equal(got, want) || e != api.OK {
		t.Errorf("P7.3 %s: Tops(%v) = %v, %d; want %v", what, ls, got, e, want)
	}
}

func TestTopsOfFew(t *testing.T) {
	topsAre(t, "none", nil)
	topsAre(t, "none, not nil", []api.Lit{})
	for _, atom := range someAtoms() {
		topsAre(t, "one", []api.Lit{is(atom...)}, 0)
		topsAre(t, "one with Neg", []api.Lit{not(atom...)}, 0)
		topsAre(t, "the same one", []api.Lit{is(atom...), is(slices.Clone(atom)...)}, 0, 1)
		topsAre(t, "a literal and its opposite", []api.Lit{is(atom...), not(atom...)}, 1)
		topsAre(t, "the opposite first", []api.Lit{not(atom...), is(atom...)}, 0)
	}
}

func TestTops(t *testing.T) {
	for _, c := range []struct {
		what string
		ls   []api.Lit
		want []int
	}{
		{"the first", []api.Lit{is(tall, cid), is(tall, ann), not(tall, bob)}, []int{0}},
		{"the last", []api.Lit{is(tall, ann), not(tall, bob), is(tall, cid)}, []int{2}},
		{"in the middle", []api.Lit{is(tall, ann), is(tall, cid), not(tall, bob)}, []int{1}},
		{"all", []api.Lit{is(tall, x(0)), not(tall, x(1)), is(tall, x(2))}, []int{0, 1, 2}},
		{"all, one variable two ways", []api.Lit{is(eq, x(0), x(1)), is(eq, x(1), x(0))}, []int{0, 1}},
		{"two of three", []api.Lit{is(tall, f, x(0)), not(tall, x(0)), is(tall, x(1))}, []int{0, 2}},
		{"one less than two others", []api.Lit{is(eq, x(0), x(1)), is(knows, x(0), x(1)), is(between, x(0), x(1), x(2)), not(rains)}, []int{1, 2}},
		{"the weightier one without the variables", []api.Lit{is(snows), not(tall, x(0)), is(rains)}, []int{0, 1}},
		{"Neg beside another atom", []api.Lit{not(rains), is(snows)}, []int{1}},
		{"the last one is more than all", []api.Lit{is(tall, x(0)), is(tall, x(1)), is(rains), is(knows, x(0), x(1))}, []int{3}},
		{"the last one is more than some", []api.Lit{is(tall, x(0)), is(tall, x(2)), is(rains), is(knows, x(0), x(1))}, []int{1, 3}},
		{"the first one is more than all", []api.Lit{is(knows, x(0), x(1)), is(tall, x(0)), is(tall, x(1)), is(rains)}, []int{0}},
		{"the opposite of each", []api.Lit{is(tall, x(0)), not(tall, x(1)), not(tall, x(0)), is(tall, x(1))}, []int{1, 2}},
	} {
		topsAre(t, c.what, c.ls, c.want...)
	}
}

// Equal literals are told each by its own index.
func TestTopsOfEqualOnes(t *testing.T) {
	a, b, less := is(tall, x(0)), not(tall, x(1)), is(tall, x(1))
	topsAre(t, "three times one", []api.Lit{a, a, a}, 0, 1, 2)
	topsAre(t, "by turns", []api.Lit{a, b, a, b, b}, 0, 1, 2, 3, 4)
	topsAre(t, "less ones between", []api.Lit{less, a, less, b, less, a, b, less}, 1, 3, 5, 6)
	topsAre(t, "less ones several times", []api.Lit{less, less, b, less}, 2)
	topsAre(t, "less ones before and behind", []api.Lit{less, less, b, b, less, b, less}, 2, 3, 5)
	topsAre(t, "the first and the last", []api.Lit{b, less, less, less, b}, 0, 4)
}

func tower(n, last int) api.Lit {
	return is(slices.Concat([]int{tall}, one(n, last))...)
}

// Each literal but one has one that is more.
func TestTopsOfChains(t *testing.T) {
	var chain []api.Lit
	for n := 1; n <= api.MaxTerm; n++ {
		chain = append(chain, tower(n, x(0)), opposite(tower(n, x(0))))
	}
	for cut := range chain {
		ls := slices.Concat(chain[cut:], chain[:cut])
		topsAre(t, "upwards", ls, (2*len(chain)-1-cut)%len(chain))
		slices.Reverse(ls)
		topsAre(t, "downwards", ls, len(ls)-1-(2*len(chain)-1-cut)%len(chain))
	}
	var two []api.Lit
	for n := 1; n <= api.MaxTerm; n++ {
		two = append(two, tower(n, x(0)), tower(api.MaxTerm+1-n, x(1)))
	}
	topsAre(t, "two chains", two, 1, len(two)-2)
}

// pairs are literals none of which is more than another one: the equations of two different variables.
func pairs() []api.Lit {
	var out []api.Lit
	for v := range api.MaxVar + 1 {
		for w := range api.MaxVar + 1 {
			if v != w {
				out = append(out, not(eq, x(v), x(w)))
			}
		}
	}
	return out
}

func upTo(n int) []int {
	var out []int
	for i := range n {
		out = append(out, i)
	}
	return out
}

func TestTopsOfLongLists(t *testing.T) {
	many := slices.Repeat([]api.Lit{is(tall, x(0)), not(tall, x(0))}, 20000)
	var odd []int
	for i := range 20000 {
		odd = append(odd, 2*i+1)
	}
	topsAre(t, "a literal and its opposite", many, odd...)
	topsAre(t, "one that is more", append(many, is(knows, x(0), x(1))), len(many))
	all := pairs()
	topsAre(t, "all", all, upTo(len(all))...)
	topsAre(t, "all, several times", slices.Repeat(all, 10), upTo(10*len(all))...)
	below := slices.Clone(all)
	for i := range below {
		below[i] = opposite(below[i])
	}
	want := upTo(2 * len(all))[len(all):]
	topsAre(t, "all, less ones before", slices.Concat(below, all), want...)
	topsAre(t, "all, less ones behind", slices.Concat(all, below), upTo(len(all))...)
}

func topsRefused(t *testing.T, what string, sig []api.Sym, ls ...api.Lit) {
	t.Helper()
	if got, e := lit.Tops(sig, ls); len(got) != 0 || e != api.ErrLitForm {
		t.Errorf("P7.3, R2 %s: %v, %d", what, got, e)
	}
}

func TestTopsRefused(t *testing.T) {
	a, b := is(knows, x(0), x(1)), not(rains)
	for _, atom := range wrongAtoms() {
		for _, wrong := range []api.Lit{{Atom: atom}, {Neg: true, Atom: atom}} {
			topsRefused(t, "alone", symbols(), wrong)
			topsRefused(t, "first", symbols(), wrong, a, b)
			topsRefused(t, "in the middle", symbols(), a, wrong, b)
			topsRefused(t, "last", symbols(), a, b, wrong)
			topsRefused(t, "twice", symbols(), wrong, wrong)
			topsRefused(t, "behind many", symbols(), append(pairs(), wrong)...)
		}
	}
	for i, sig := range wrongSignatures() {
		if got, e := lit.Tops(sig, nil); len(got) != 0 || e != api.ErrLitForm {
			t.Errorf("P7.3, R2: no literal with the wrong signature %d: %v, %d", i, got, e)
		}
		topsRefused(t, "no literal", sig, []api.Lit{}...)
		topsRefused(t, "one", sig, not(eq, x(0), x(0)))
		topsRefused(t, "two", sig, b, not(eq, x(0), x(0)))
		topsRefused(t, "a wrong one", sig, is())
	}
}
