package order_test

import (
	"math"
	"slices"
	"strconv"
	"testing"

	"quaere/api"
	"quaere/order"
)

// The codes of symbols().
const (
	eq = iota
	likes
	knows
	rains
	tall
	ann
	bob
	cid
	f
	k
	g
	sk2
	h
	sk
	between
	snows
	beyond // no symbol has this code
)

// symbols has predicates before and behind the functions, and symbols that differ by their codes alone, and by their Weights alone.
func symbols() []api.Sym {
	return []api.Sym{
		eq:      {Name: "=", Kind: api.KindPred, Arity: 2, Weight: 1},
		likes:   {Name: "likes", Kind: api.KindPred, Arity: 2, Weight: 1},
		knows:   {Name: "knows", Kind: api.KindPred, Arity: 2, Weight: 4},
		rains:   {Name: "rains", Kind: api.KindPred, Arity: 0, Weight: 3},
		tall:    {Name: "tall", Kind: api.KindPred, Arity: 1, Weight: 2},
		ann:     {Name: "ann", Kind: api.KindFun, Arity: 0, Weight: 1},
		bob:     {Name: "bob", Kind: api.KindFun, Arity: 0, Weight: 1},
		cid:     {Name: "cid", Kind: api.KindFun, Arity: 0, Weight: 2},
		f:       {Name: "f", Kind: api.KindFun, Arity: 1, Weight: 1},
		k:       {Name: "k", Kind: api.KindSkolem, Arity: 1, Weight: 1},
		g:       {Name: "g", Kind: api.KindFun, Arity: 2, Weight: 3},
		sk2:     {Name: "sk2", Kind: api.KindSkolem, Arity: 2, Weight: 2},
		h:       {Name: "h", Kind: api.KindFun, Arity: api.MaxArity, Weight: 5},
		sk:      {Name: "sk", Kind: api.KindSkolem, Arity: 0, Weight: api.MaxWeight},
		between: {Name: "between", Kind: api.KindPred, Arity: 3, Weight: 1},
		snows:   {Name: "snows", Kind: api.KindPred, Arity: 0, Weight: api.MaxWeight},
	}
}

// x is the code of the variable v.
func x(v int) int {
	return -1 - v
}

// row joins lists of codes.
func row(parts ...[]int) []int {
	return slices.Concat(parts...)
}

func some(n int, codes ...int) []int {
	return slices.Repeat(codes, n)
}

// one is a term of n codes that ends with the code last.
func one(n, last int) []int {
	return row(some(n-1, f), []int{last})
}

func answers(t *testing.T, what string, a, b []int, want int, wantE api.Errno) {
	t.Helper()
	if got, e := order.Compare(symbols(), a, b); got != want || e != wantE {
		t.Errorf("P6.1 %s: Compare(%v, %v) = %d, %d; want %d, %d", what, a, b, got, e, want, wantE)
	}
}

// isMore, same, none and refused call Compare both ways round.
func isMore(t *testing.T, what string, a, b []int) {
	t.Helper()
	answers(t, what, a, b, api.OrderMore, api.OK)
	answers(t, what+", the other way round", b, a, api.OrderLess, api.OK)
}

func same(t *testing.T, what string, a, b []int) {
	t.Helper()
	answers(t, what, a, b, api.OrderSame, api.OK)
	answers(t, what+", the other way round", b, a, api.OrderSame, api.OK)
}

func none(t *testing.T, what string, a, b []int) {
	t.Helper()
	answers(t, what, a, b, api.OrderNone, api.OK)
	answers(t, what+", the other way round", b, a, api.OrderNone, api.OK)
}

func refused(t *testing.T, what string, a, b []int) {
	t.Helper()
	answers(t, what, a, b, 0, api.ErrOrderForm)
	answers(t, what+", the other way round", b, a, 0, api.ErrOrderForm)
}

func TestTable(t *testing.T) {
	none(t, "X0 and X1", []int{x(0)}, []int{x(1)})
	isMore(t, "f(X0) and X0", []int{f, x(0)}, []int{x(0)})
}

func someTerms() [][]int {
	return [][]int{
		{x(0)}, {x(api.MaxVar)}, {ann}, {sk}, {f, ann}, {k, x(3)}, {g, x(1), x(0)}, {sk2, ann, f, x(2)}, {h, cid, x(1), x(1)},
		one(api.MaxTerm, ann), one(api.MaxTerm, x(7)), row(some(23, g), some(24, x(0))),
	}
}

func someAtoms() [][]int {
	return [][]int{
		{rains}, {snows}, {eq, x(0), x(0)}, {eq, ann, x(0)}, {likes, x(1), x(0)}, {knows, f, ann, bob}, {tall, x(api.MaxVar)},
		{between, ann, x(0), g, x(1), x(0)}, row([]int{tall}, one(api.MaxTerm, x(2))),
		row([]int{eq}, one(24, ann), one(24, bob)), row([]int{between}, one(16, x(0)), one(16, ann), one(16, x(1))),
	}
}

func TestEqual(t *testing.T) {
	for _, a := range slices.Concat(someTerms(), someAtoms()) {
		same(t, "with its copy", a, slices.Clone(a))
		same(t, "one list as both", a, a)
	}
}

// Where variables do not forbid it, the Weight decides, whatever codes and arguments say.
func TestWeight(t *testing.T) {
	isMore(t, "constants", []int{cid}, []int{bob})
	isMore(t, "the weight beats the code", []int{g, ann, ann}, []int{sk2, ann, ann})
	isMore(t, "by one", []int{f, cid}, []int{k, ann})
	isMore(t, "by an argument", []int{g, ann, cid}, []int{g, bob, ann})
	isMore(t, "not the number of codes", []int{sk}, []int{h, ann, bob, f, f, ann})
	isMore(t, "by one less codes", []int{g, x(0), x(1)}, []int{f, f, f, x(0)})
	isMore(t, "all of one code", []int{f, sk}, []int{sk})
	isMore(t, "the first argument lighter, all heavier", []int{h, ann, bob, sk}, []int{h, cid, cid, cid})
	isMore(t, "the first argument's variables fewer, all heavier", []int{g, ann, f, x(0)}, []int{g, x(0), ann})
	isMore(t, "a variable weighs 1", []int{f, x(0)}, []int{ann})
	isMore(t, "variables weigh 1 each", []int{g, x(0), x(0)}, []int{sk2, ann, ann})
	isMore(t, "variables and one symbol more", []int{f, f, x(0)}, []int{f, x(0)})
	isMore(t, "the greatest weights", []int{h, sk, sk, sk}, []int{h, sk, sk, bob})
	for n := 2; n <= api.MaxTerm; n++ {
		isMore(t, strconv.Itoa(n)+" codes and one less", one(n, x(0)), one(n-1, x(0)))
		isMore(t, strconv.Itoa(n)+" codes and a constant", one(n, x(0)), []int{bob})
	}
}

// With equal Weights and variables, the first code decides, whatever arguments say.
func TestFirstCode(t *testing.T) {
	isMore(t, "constants", []int{bob}, []int{ann})
	isMore(t, "of one argument", []int{k, x(0)}, []int{f, x(0)})
	isMore(t, "the argument is less", []int{k, ann}, []int{f, bob})
	isMore(t, "variables in another order", []int{sk2, x(1), f, x(0)}, []int{g, x(0), x(1)})
	isMore(t, "a constant and a term", []int{f, ann}, []int{cid})
	isMore(t, "arities", []int{h, ann, ann, ann}, []int{g, ann, f, f, f, ann})
	isMore(t, "arities and weights", []int{sk}, one(api.MaxWeight, ann))
	isMore(t, "one more variable", []int{k, x(0)}, []int{f, ann})
	none(t, "the first code is greater, a variable is missing", []int{k, ann}, []int{f, x(0)})
	none(t, "the first code is greater, another variable", []int{k, x(1)}, []int{f, x(0)})
}

func TestArguments(t *testing.T) {
	isMore(t, "the only one", []int{f, bob}, []int{f, ann})
	isMore(t, "the first one", []int{g, bob, x(0)}, []int{g, ann, x(0)})
	isMore(t, "the last one", []int{g, x(0), bob}, []int{g, x(0), ann})
	isMore(t, "the first of three", []int{h, bob, ann, ann}, []int{h, ann, ann, ann})
	isMore(t, "the second of three", []int{h, ann, bob, ann}, []int{h, ann, ann, ann})
	isMore(t, "the third of three", []int{h, ann, ann, bob}, []int{h, ann, ann, ann})
	isMore(t, "behind longer ones", []int{h, f, g, ann, ann, g, f, x(0), x(1), k, x(2)}, []int{h, f, g, ann, ann, g, f, x(0), x(1), f, x(2)})
	isMore(t, "deep", []int{f, g, ann, f, h, ann, x(0), k, ann}, []int{f, g, ann, f, h, ann, x(0), f, bob})
	isMore(t, "its weight decides, not its code", []int{sk2, f, f, f, f, ann, ann}, []int{sk2, k, f, f, ann, cid})
	isMore(t, "its first code decides", []int{g, k, ann, ann}, []int{g, cid, bob})
}

// Of several arguments that differ, only the first one decides.
func TestSeveralArguments(t *testing.T) {
	isMore(t, "the second one is less", []int{g, bob, ann}, []int{g, ann, bob})
	isMore(t, "by weight", []int{g, cid, ann}, []int{g, ann, cid})
	isMore(t, "the first of three", []int{h, bob, ann, ann}, []int{h, ann, bob, bob})
	isMore(t, "the second of three", []int{h, cid, bob, ann}, []int{h, cid, ann, bob})
	isMore(t, "by weight, the second of three", []int{h, x(1), f, x(0), x(0)}, []int{h, x(1), x(0), f, x(0)})
	isMore(t, "lengths exchanged", []int{g, f, f, x(0), x(0)}, []int{g, x(0), f, f, x(0)})
	isMore(t, "of the first one, the first of its own", []int{g, g, bob, ann, ann}, []int{g, g, ann, bob, bob})
	isMore(t, "of the first one, the second of its own", []int{g, g, x(0), bob, ann}, []int{g, g, x(0), ann, bob})
	isMore(t, "variables behind it in another order", []int{h, bob, x(0), x(1)}, []int{h, ann, x(1), x(0)})
	none(t, "the first one can not be compared", []int{g, x(0), bob}, []int{g, ann, x(0)})
	none(t, "the first one can not be compared, the second can", []int{h, x(0), x(1), bob}, []int{h, x(1), x(0), ann})
	none(t, "the second one can not be compared", []int{h, ann, x(0), x(1)}, []int{h, ann, x(1), x(0)})
	none(t, "a variable before a constant", []int{g, x(0), ann}, []int{g, bob, x(0)})
	none(t, "the first one is heavier, without its variable", []int{g, f, ann, x(0)}, []int{g, x(0), cid})
}

func TestHowOftenVariablesOccur(t *testing.T) {
	isMore(t, "as often", []int{g, x(0), x(0)}, []int{sk2, x(0), x(0)})
	isMore(t, "more often", []int{g, x(0), x(0)}, []int{sk2, x(0), ann})
	isMore(t, "once and never", []int{g, x(0), ann}, []int{sk2, ann, ann})
	none(t, "once and twice", []int{g, x(0), sk}, []int{g, x(0), x(0)})
	none(t, "never and once", []int{sk}, []int{x(0)})
	none(t, "one more often, one less", []int{h, x(0), x(0), x(1)}, []int{sk2, x(1), x(1)})
	none(t, "one missing of three", []int{h, x(0), x(1), sk}, []int{h, x(0), x(1), x(2)})
	none(t, "the greatest missing", []int{f, sk}, []int{f, x(api.MaxVar)})
	none(t, "another one instead", []int{f, f, f, x(1)}, []int{f, x(0)})
	none(t, "equal weights, one missing in each", []int{g, x(0), x(1)}, []int{g, x(0), x(2)})
	none(t, "equal weights, one more often in each", []int{h, x(0), x(0), x(1)}, []int{h, x(0), x(1), x(1)})
	isMore(t, "equal weights, more often", []int{h, bob, x(0), x(0)}, []int{h, ann, x(0), ann})
	none(t, "lighter, but more often", []int{sk2, x(0), x(0)}, []int{h, x(0), ann, ann})
	isMore(t, "heavier and more often", []int{h, x(0), x(0), x(0)}, []int{sk2, x(0), x(0)})
}

func TestVariables(t *testing.T) {
	for v := range api.MaxVar + 1 {
		same(t, "one", []int{x(v)}, []int{x(v)})
		none(t, "one and the next", []int{x(v)}, []int{x((v + 1) % (api.MaxVar + 1))})
		none(t, "one and another inside", []int{f, x(v)}, []int{x((v + 7) % (api.MaxVar + 1))})
		none(t, "one and another, both inside", []int{f, x(v)}, []int{f, x((v + 7) % (api.MaxVar + 1))})
		none(t, "and a constant", []int{x(v)}, []int{ann})
		none(t, "and the heaviest constant", []int{x(v)}, []int{sk})
		none(t, "and a term without it", []int{x(v)}, []int{g, ann, f, bob})
		none(t, "and a term without it as long as may be", []int{x(v)}, one(api.MaxTerm, sk))
		isMore(t, "and a term with it", []int{g, ann, x(v)}, []int{x(v)})
		isMore(t, "as long as may be", one(api.MaxTerm, x(v)), []int{x(v)})
		none(t, "inside, against a constant", []int{f, x(v)}, []int{f, sk})
		isMore(t, "inside, against a lighter term", []int{g, x(v), x(v)}, []int{f, bob})
	}
}

// A term is more than each of its parts.
func TestParts(t *testing.T) {
	whole := []int{h, f, x(0), g, cid, k, x(1), sk2, x(0), ann}
	for _, part := range [][]int{{f, x(0)}, {x(0)}, {g, cid, k, x(1)}, {cid}, {k, x(1)}, {x(1)}, {sk2, x(0), ann}, {ann}} {
		isMore(t, "a part", whole, part)
	}
	for n := 1; n < api.MaxTerm; n++ {
		isMore(t, "the last of MaxTerm", one(api.MaxTerm, bob), one(n, bob))
		isMore(t, "the last of MaxTerm, a variable", one(api.MaxTerm, x(4)), one(n, x(4)))
	}
	none(t, "but not than another variable's", whole, []int{k, x(2)})
	none(t, "but not than one that has a variable more often", whole, []int{g, x(1), x(1)})
}

func TestAtoms(t *testing.T) {
	isMore(t, "predicates", []int{likes, x(0), x(1)}, []int{eq, x(0), x(1)})
	isMore(t, "the predicate's weight counts", []int{knows, ann, ann}, []int{likes, cid, cid})
	isMore(t, "the predicate's weight beats its code", []int{knows, x(0), ann}, []int{between, x(0), ann, ann})
	isMore(t, "without arguments, by weight", []int{snows}, []int{rains})
	isMore(t, "with an argument against none, equal weights", []int{tall, ann}, []int{rains})
	isMore(t, "the weight beats the code", []int{tall, cid}, []int{rains})
	isMore(t, "equal weights, its code is greater", []int{rains}, []int{eq, ann, ann})
	isMore(t, "arguments", []int{eq, bob, x(0)}, []int{eq, ann, x(0)})
	isMore(t, "the first argument decides", []int{likes, bob, ann}, []int{likes, ann, bob})
	isMore(t, "the third argument", []int{between, x(0), x(1), bob}, []int{between, x(0), x(1), ann})
	isMore(t, "sides exchanged", []int{eq, f, x(0), x(0)}, []int{eq, x(0), f, x(0)})
	isMore(t, "predicates decide before arguments", []int{likes, x(0), bob}, []int{eq, bob, x(0)})
	none(t, "without arguments against a variable", []int{snows}, []int{tall, x(0)})
	none(t, "variables exchanged", []int{eq, x(0), x(1)}, []int{eq, x(1), x(0)})
	none(t, "a variable more often in each", []int{knows, x(0), x(0)}, []int{likes, x(0), x(1)})
	none(t, "a variable and a constant", []int{tall, x(0)}, []int{tall, ann})
	none(t, "heavier without the variable", []int{tall, sk}, []int{tall, x(0)})
}

func TestTermsAgainstAtoms(t *testing.T) {
	for _, a := range someTerms() {
		for _, b := range someAtoms() {
			refused(t, "a term and an atom", a, b)
		}
		refused(t, "a term and an atom of it", a, row([]int{tall}, a))
	}
}

func TestLength(t *testing.T) {
	isMore(t, "the last of MaxTerm codes", one(api.MaxTerm, bob), one(api.MaxTerm, ann))
	isMore(t, "the first of MaxTerm codes", row([]int{k}, one(47, ann)), one(api.MaxTerm, bob))
	isMore(t, "one in the middle", row(some(24, f), []int{k}, one(23, ann)), one(api.MaxTerm, bob))
	none(t, "the last of MaxTerm codes, variables", one(api.MaxTerm, x(0)), one(api.MaxTerm, x(1)))
	none(t, "the last of MaxTerm codes, a variable and a constant", one(api.MaxTerm, x(0)), one(api.MaxTerm, bob))
	isMore(t, "the heaviest", row([]int{f}, some(46, f), []int{sk}), one(api.MaxTerm, cid))
	wide := row(some(23, g), some(24, x(0)))
	isMore(t, "pairs in first arguments", row([]int{f}, wide), wide)
	isMore(t, "pairs, the last one", row(some(23, g), some(23, x(0)), []int{bob}), row(some(23, g), some(23, x(0)), []int{ann}))
	none(t, "pairs, the last one a variable", wide, row(some(23, g), some(23, x(0)), []int{ann}))
	isMore(t, "an atom of MaxTerm codes and its predicate", row([]int{tall}, one(api.MaxTerm, bob)), row([]int{tall}, one(api.MaxTerm, ann)))
	isMore(t, "an atom and a short one", row([]int{tall}, one(api.MaxTerm, x(0))), []int{tall, x(0)})
	isMore(t, "atoms of two sides", row([]int{eq}, one(24, bob), one(24, ann)), row([]int{eq}, one(24, ann), one(24, bob)))
	isMore(t, "atoms of three arguments, the last one", row([]int{between}, one(16, x(0)), one(16, x(1)), one(16, bob)), row([]int{between}, one(16, x(0)), one(16, x(1)), one(16, ann)))
	none(t, "atoms of three arguments, variables", row([]int{between}, one(16, x(0)), one(16, x(1)), one(16, x(2))), row([]int{between}, one(16, x(0)), one(16, x(2)), one(16, x(1))))
	isMore(t, "predicates", row([]int{likes}, one(24, ann), one(24, bob)), row([]int{eq}, one(24, bob), one(24, ann)))
	for _, b := range [][]int{{ann}, one(api.MaxTerm, ann), one(api.MaxTerm+1, ann)} {
		refused(t, "a term of one more", one(api.MaxTerm+1, ann), b)
	}
	for _, b := range [][]int{{rains}, row([]int{tall}, one(api.MaxTerm, ann)), row([]int{tall}, one(api.MaxTerm+1, ann))} {
		refused(t, "an atom of one more", row([]int{tall}, one(api.MaxTerm+1, ann)), b)
		refused(t, "an atom of one more, on two sides", row([]int{eq}, one(24, ann), one(25, ann)), b)
	}
}

func wrongLists() map[string][]int {
	return map[string][]int{
		"no term":              nil,
		"no term, not nil":     {},
		"two variables":        {x(0), x(0)},
		"two constants":        {ann, ann},
		"two terms":            {f, ann, g, x(0), x(1)},
		"MaxTerm terms":        some(api.MaxTerm, x(0)),
		"cut short":            {f},
		"cut short inside":     {g, ann},
		"no symbol":            {beyond},
		"no variable":          {x(api.MaxVar + 1)},
		"greatest code":        {math.MaxInt},
		"least code":           {math.MinInt},
		"a predicate inside":   {f, rains},
		"no symbol inside":     {g, ann, beyond},
		"no variable inside":   {k, x(api.MaxVar + 1)},
		"= alone":              {eq},
		"one side":             {eq, ann},
		"three sides":          {eq, ann, ann, ann},
		"an argument too many": {rains, ann},
		"two too few":          {between, ann},
		"an atom in an atom":   {tall, rains},
		"an atom and an atom":  {rains, rains},
		"an atom and a term":   {tall, ann, ann},
		"an atom cut short":    {tall, f},
		"a term and an atom":   {ann, rains},
		"much too long":        some(1<<16, ann),
		"an atom much too":     row([]int{tall}, some(1<<16, f), []int{ann}),
	}
}

func TestWrongLists(t *testing.T) {
	for what, wrong := range wrongLists() {
		for _, a := range slices.Concat(someTerms(), someAtoms()) {
			refused(t, what, wrong, a)
		}
		refused(t, what+", with itself", wrong, wrong)
		for other, a := range wrongLists() {
			refused(t, what+" and "+other, wrong, a)
		}
	}
}

func wrongSignatures() map[string][]api.Sym {
	z := func(kind, arity, weight int) []api.Sym {
		return append(symbols(), api.Sym{Name: "z", Kind: kind, Arity: arity, Weight: weight})
	}
	first := symbols()
	first[eq].Weight = 2
	return map[string][]api.Sym{
		"nil":              nil,
		"without =":        symbols()[likes:],
		"= is heavier":     first,
		"a name twice":     append(symbols(), symbols()[f]),
		"arity below 0":    z(api.KindFun, -1, 1),
		"arity too great":  z(api.KindFun, math.MaxInt, 1),
		"wrong kind":       z(math.MinInt, 0, 1),
		"weight 0":         z(api.KindFun, 0, 0),
		"weight below 0":   z(api.KindPred, 0, math.MinInt),
		"weight too great": z(api.KindFun, 0, api.MaxWeight+1),
		"greatest weight":  z(api.KindPred, 1, math.MaxInt),
		"too many":         slices.Repeat(symbols(), 3),
	}
}

func TestWrongSignatures(t *testing.T) {
	lists := slices.Concat(someTerms(), someAtoms(), [][]int{nil, {f}, {beyond}, {beyond, ann}})
	for what, sig := range wrongSignatures() {
		for _, a := range lists {
			for _, b := range lists {
				if got, e := order.Compare(sig, a, b); got != 0 || e != api.ErrOrderForm {
					t.Errorf("P6.1 %s: Compare(%v, %v) = %d, %d", what, a, b, got, e)
				}
			}
		}
	}
}

// The signature decides what is a term and what an atom, and how much they weigh.
func TestSignatureIsRead(t *testing.T) {
	compare := func(s api.Sym, a, b []int, want int, wantE api.Errno) {
		t.Helper()
		if got, e := order.Compare(append(symbols(), s), a, b); got != want || e != wantE {
			t.Errorf("P6.1 with %v: Compare(%v, %v) = %d, %d", s, a, b, got, e)
		}
	}
	z, heavier := []int{beyond}, []int{f, f, ann}
	refused(t, "no symbol", z, []int{ann})
	compare(api.Sym{Name: "z", Kind: api.KindFun, Weight: 2}, z, heavier, api.OrderLess, api.OK)
	compare(api.Sym{Name: "z", Kind: api.KindFun, Weight: 3}, z, heavier, api.OrderMore, api.OK)
	compare(api.Sym{Name: "z", Kind: api.KindSkolem, Weight: 4}, z, heavier, api.OrderMore, api.OK)
	compare(api.Sym{Name: "z", Kind: api.KindPred, Weight: 4}, z, heavier, 0, api.ErrOrderForm)
	compare(api.Sym{Name: "z", Kind: api.KindPred, Weight: 4}, z, []int{rains}, api.OrderMore, api.OK)
	compare(api.Sym{Name: "z", Kind: api.KindPred, Weight: 2}, z, []int{rains}, api.OrderLess, api.OK)
	compare(api.Sym{Name: "z", Kind: api.KindPred, Arity: 1, Weight: 4}, z, []int{rains}, 0, api.ErrOrderForm)
	if got, e := order.Compare(symbols()[:bob], []int{bob}, []int{ann}); got != 0 || e != api.ErrOrderForm {
		t.Errorf("P6.1 a symbol of the spare capacity: %d, %d", got, e)
	}
	if got, e := order.Compare(symbols()[:1], []int{eq, x(0), x(0)}, []int{eq, x(0), x(1)}); got != api.OrderNone || e != api.OK {
		t.Errorf("P6.1 equality alone: %d, %d", got, e)
	}
}
