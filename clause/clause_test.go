package clause_test

import (
	"math"
	"slices"
	"testing"

	"quaere/api"
	"quaere/clause"
)

// The codes of symbols().
const (
	eq = iota
	likes
	rains
	tall
	ann
	bob
	f
	g
	h
	sk
	between
	beyond // no symbol has this code
)

// symbols has predicates before and behind the functions, and all kinds and arities.
func symbols() []api.Sym {
	return []api.Sym{
		eq:      {Name: "=", Kind: api.KindPred, Arity: 2, Weight: 1},
		likes:   {Name: "likes", Kind: api.KindPred, Arity: 2, Weight: 4},
		rains:   {Name: "rains", Kind: api.KindPred, Arity: 0, Weight: 3},
		tall:    {Name: "tall", Kind: api.KindPred, Arity: 1, Weight: 2},
		ann:     {Name: "ann", Kind: api.KindFun, Arity: 0, Weight: 1},
		bob:     {Name: "bob", Kind: api.KindFun, Arity: 0, Weight: 6},
		f:       {Name: "f", Kind: api.KindFun, Arity: 1, Weight: 1},
		g:       {Name: "g", Kind: api.KindSkolem, Arity: 2, Weight: 3},
		h:       {Name: "h", Kind: api.KindFun, Arity: api.MaxArity, Weight: 5},
		sk:      {Name: "sk", Kind: api.KindSkolem, Arity: 0, Weight: api.MaxWeight},
		between: {Name: "between", Kind: api.KindPred, Arity: 3, Weight: 1},
	}
}

// x is the code of the variable v.
func x(v int) int {
	return -1 - v
}

func is(atom ...int) api.Lit {
	return api.Lit{Atom: atom}
}

func not(atom ...int) api.Lit {
	return api.Lit{Neg: true, Atom: atom}
}

func row(codes ...int) []int {
	return codes
}

func lits(ls ...api.Lit) api.Clause {
	return api.Clause{Lits: ls}
}

func tuples(rs ...[]int) api.Clause {
	return api.Clause{Tuples: rs}
}

func conds(ls ...api.Lit) api.Clause {
	return api.Clause{Conds: ls}
}

// whole puts the Lits, Tuples and Conds of several clauses together.
func whole(cs ...api.Clause) api.Clause {
	var out api.Clause
	for _, c := range cs {
		out.Lits = append(out.Lits, c.Lits...)
		out.Tuples = append(out.Tuples, c.Tuples...)
		out.Conds = append(out.Conds, c.Conds...)
	}
	return out
}

// one is a term of n codes that ends with the code last.
func one(n, last int) []int {
	return slices.Concat(slices.Repeat([]int{f}, n-1), []int{last})
}

// tower is an atom of n codes.
func tower(n int) api.Lit {
	return is(slices.Concat([]int{tall}, one(n-1, x(0)))...)
}

func sameLit(l, m api.Lit) bool {
	return l.Neg == m.Neg && slices.Equal(l.Atom, m.Atom)
}

func sameRow(r, s []int) bool {
	return slices.Equal(r, s)
}

func same(c, d api.Clause) bool {
	return slices.EqualFunc(c.Lits, d.Lits, sameLit) && slices.EqualFunc(c.Tuples, d.Tuples, sameRow) && slices.EqualFunc(c.Conds, d.Conds, sameLit)
}

func isEmpty(c api.Clause) bool {
	return len(c.Lits) == 0 && len(c.Tuples) == 0 && len(c.Conds) == 0
}

// rightClauses are valid: ordinary ones, and those at the limits.
func rightClauses() []api.Clause {
	a, b := is(likes, x(0), ann), not(tall, f, x(1))
	return append(edges(),
		api.Clause{},
		api.Clause{Lits: []api.Lit{}, Tuples: [][]int{}, Conds: []api.Lit{}},
		lits(a), lits(b), lits(a, b), lits(is(rains), not(rains)), lits(is(eq, x(0), x(0))), lits(a, a),
		tuples(nil), tuples(row()), tuples(row(), nil), tuples(row(x(0))), tuples(row(x(0), ann), row(g, ann, x(3), f, f, ann)),
		tuples(row(x(0)), row(x(0))), tuples(row(h, ann, ann, ann), row(x(api.MaxVar)), row(ann)),
		conds(a), conds(a, b), conds(not(rains), not(rains)),
		whole(lits(a), tuples(row(x(0), x(1)))), whole(lits(b), conds(a)), whole(tuples(row(ann)), conds(b)),
		whole(lits(b, a), tuples(row(x(2)), row(ann)), conds(is(between, x(2), x(7), sk), a)),
	)
}

// edges have just as many Lits, Tuples, Conds, codes as are allowed.
func edges() []api.Clause {
	r := is(rains)
	long := slices.Repeat([]int{ann}, api.MaxTerm)
	full := tower(api.MaxTerm + 1)
	return []api.Clause{
		lits(slices.Repeat([]api.Lit{r}, api.MaxLits)...),
		tuples(slices.Repeat([][]int{{x(0)}}, api.MaxTuples)...),
		tuples(slices.Repeat([][]int{nil}, api.MaxTuples)...),
		conds(slices.Repeat([]api.Lit{r}, api.MaxConds)...),
		whole(lits(r, r, r, r, r), tuples(nil, row(), nil), conds(r, r, r)),
		lits(full, full, full, full, tower(44)),
		whole(tuples(long, long, long), conds(tower(48), tower(48))),
		whole(tuples(long), conds(full, full, full), lits(tower(45))),
		whole(lits(full), tuples(long, long, long), conds(tower(47))),
		whole(lits(full, full, full, full), tuples(one(44, ann))),
		whole(lits(full, full, full, full), conds(tower(44))),
	}
}

// wrongClauses are not valid, by one thing each.
func wrongClauses() []api.Clause {
	r := is(rains)
	long := slices.Repeat([]int{ann}, api.MaxTerm)
	full := tower(api.MaxTerm + 1)
	out := []api.Clause{
		lits(slices.Repeat([]api.Lit{r}, api.MaxLits+1)...),
		tuples(slices.Repeat([][]int{{x(0)}}, api.MaxTuples+1)...),
		tuples(slices.Repeat([][]int{nil}, api.MaxTuples+1)...),
		conds(slices.Repeat([]api.Lit{r}, api.MaxConds+1)...),
		lits(slices.Repeat([]api.Lit{r}, 1000000)...), tuples(slices.Repeat([][]int{nil}, 1000000)...), conds(slices.Repeat([]api.Lit{r}, 1000000)...),
		lits(full, full, full, full, tower(45)),
		whole(tuples(long, long, long), conds(tower(48), tower(49))),
		whole(tuples(long), conds(full, full, full), lits(tower(46))),
		whole(lits(full), tuples(long, long, long), conds(tower(48))),
		whole(lits(full, full, full, full), tuples(one(45, ann))),
		whole(lits(full, full, full, full), conds(tower(45))),
		whole(lits(full, full, full, full, full), tuples(long, long, long), conds(full, full, full)),
		tuples(row(), row(ann)), tuples(row(ann), row()), tuples(row(ann), row(ann, ann)), tuples(row(ann, ann), row(ann)),
		tuples(row(f, ann), row(x(0), x(1))), tuples(row(ann), row(bob), row(x(0), ann)), tuples(row(ann), row(x(0), ann), row(bob)), tuples(row(x(0), x(0)), row(ann), row(bob)),
		tuples(nil, nil, row(x(0))),
	}
	return slices.Concat(out, wrongLits(), wrongTuples())
}

// wrongLits have an Atom that is none, as a Lit and as a Cond, at each place.
func wrongLits() []api.Clause {
	a, b := is(likes, x(0), ann), not(rains)
	var out []api.Clause
	for _, atom := range [][]int{
		nil, {}, {x(0)}, {ann}, {f, ann}, {ann, rains}, {eq}, {eq, ann}, {eq, ann, ann, ann}, {tall, f}, {rains, ann}, {tall, rains},
		{tall, x(api.MaxVar + 1)}, {tall, beyond}, {beyond}, {math.MinInt}, {math.MaxInt}, {tall, math.MinInt}, {tall, math.MaxInt},
		slices.Concat([]int{tall}, one(api.MaxTerm+1, ann)), slices.Concat([]int{eq}, one(24, ann), one(25, ann)), slices.Repeat([]int{f}, 1000000),
	} {
		for _, wrong := range []api.Lit{is(atom...), not(atom...)} {
			out = append(out, lits(wrong), lits(wrong, a), lits(a, wrong), lits(a, wrong, b), conds(wrong), conds(wrong, a), conds(a, b, wrong))
			out = append(out, whole(lits(a, wrong), tuples(row(ann)), conds(b)), whole(lits(a), tuples(row(ann)), conds(wrong)))
		}
	}
	return out
}

// wrongTuples have a Tuple that is no row, at each place.
func wrongTuples() []api.Clause {
	var out []api.Clause
	for _, wrong := range [][]int{
		{f}, {g, ann}, {eq, ann, ann}, {rains}, {x(api.MaxVar + 1)}, {beyond}, {ann, f}, {math.MinInt}, {math.MaxInt}, {math.MinInt, ann},
		slices.Repeat([]int{ann}, api.MaxTerm+1), one(api.MaxTerm+1, ann), slices.Repeat([]int{ann}, 1000000),
	} {
		out = append(out, tuples(wrong), tuples(wrong, wrong), tuples(nil, wrong), tuples(wrong, nil), tuples(row(ann), wrong), tuples(row(ann), row(bob), wrong))
		out = append(out, whole(lits(is(rains)), tuples(wrong), conds(is(rains))))
	}
	return out
}

// wrongSignatures are not valid, though all codes below beyond are symbols in most of them.
func wrongSignatures() [][]api.Sym {
	out := [][]api.Sym{nil, {}, symbols()[1:], append(symbols(), symbols()[ann]), slices.Repeat(symbols(), 2), slices.Repeat(symbols(), 1000)}
	for _, s := range []api.Sym{
		{Name: "", Weight: 1}, {Name: "X", Weight: 1}, {Name: "abcdefghi", Weight: 1}, {Name: "z", Kind: 3, Weight: 1}, {Name: "z", Kind: -1, Weight: 1},
		{Name: "z", Arity: api.MaxArity + 1, Weight: 1}, {Name: "z", Arity: -1, Weight: 1}, {Name: "z"}, {Name: "z", Weight: api.MaxWeight + 1},
	} {
		out = append(out, append(symbols(), s))
	}
	weight := symbols()
	weight[eq].Weight = 2
	return append(out, weight)
}

// P8.1.

func TestMay(t *testing.T) {
	for i, c := range rightClauses() {
		if !clause.May(symbols(), c) {
			t.Errorf("P8.1: May of the right clause %d = false: %v", i, c)
		}
	}
	alone := symbols()[:1]
	if !clause.May(alone, lits(not(eq, x(0), x(1)))) || !clause.May(alone, api.Clause{}) || clause.May(alone, lits(is(rains))) || clause.May(alone, tuples(row(ann))) {
		t.Error("P8.1: with equality alone")
	}
}

// refused looks whether every call refuses a signature with a clause, and what stands beside the error.
func refused(t *testing.T, what string, i int, sig []api.Sym, c api.Clause) {
	t.Helper()
	if clause.May(sig, c) {
		t.Errorf("P8.1: %s %d: May = true", what, i)
	}
	if n, e := clause.Normal(sig, c); !isEmpty(n) || e != api.ErrClauseForm {
		t.Errorf("P8.2, R2: %s %d: Normal = %v, %d", what, i, n, e)
	}
	if got, e := clause.Trivial(sig, c); got || e != api.ErrClauseForm {
		t.Errorf("P8.3, R2: %s %d: Trivial = %t, %d", what, i, got, e)
	}
	for k, pair := range [][2]api.Clause{{c, c}, {c, {}}, {{}, c}, {c, lits(is(eq, x(0), x(1)))}, {lits(is(eq, x(0), x(1))), c}} {
		if got, e := clause.Variant(sig, pair[0], pair[1]); got || e != api.ErrClauseForm {
			t.Errorf("P8.4, R2: %s %d, pair %d: Variant = %t, %d", what, i, k, got, e)
		}
	}
	if w, e := clause.Weight(sig, c); w != 0 || e != api.ErrClauseForm {
		t.Errorf("P8.1, R2: %s %d: Weight = %d, %d", what, i, w, e)
	}
	if vs, e := clause.Vars(sig, c); len(vs) != 0 || e != api.ErrClauseForm {
		t.Errorf("P8.1, R2: %s %d: Vars = %v, %d", what, i, vs, e)
	}
}

func TestWrongClausesRefused(t *testing.T) {
	for i, c := range wrongClauses() {
		refused(t, "wrong clause", i, symbols(), c)
	}
}

func TestWrongSignaturesRefused(t *testing.T) {
	for i, sig := range wrongSignatures() {
		for _, c := range []api.Clause{
			{}, lits(is(eq, x(0), x(0))), lits(is(rains), not(rains)), tuples(nil), tuples(row(x(3))), conds(not(eq, x(0), x(1))),
			lits(is(beyond)), tuples(row(beyond)), wrongClauses()[0],
		} {
			refused(t, "wrong signature", i, sig, c)
		}
	}
}

func weighs(t *testing.T, what string, c api.Clause, want int) {
	t.Helper()
	if got, e := clause.Weight(symbols(), c); got != want || e != api.OK {
		t.Errorf("P8.1 %s: Weight(%v) = %d, %d; want %d", what, c, got, e, want)
	}
}

func TestWeight(t *testing.T) {
	a, b := is(likes, x(0), bob), not(tall, g, ann, x(9))
	weighs(t, "nothing", api.Clause{}, 0)
	weighs(t, "one Lit", lits(a), 4+1+6)
	weighs(t, "one Lit with Neg", lits(b), 2+3+1+1)
	weighs(t, "two Lits", lits(a, b), 11+7)
	weighs(t, "equal Lits, each for itself", lits(a, a, b, a), 11+11+7+11)
	weighs(t, "a Lit and its opposite", lits(is(rains), not(rains)), 6)
	weighs(t, "without arguments", lits(not(rains)), 3)
	weighs(t, "the greatest Weight of a symbol", lits(is(tall, sk)), 2+api.MaxWeight)
	weighs(t, "Tuples alone", tuples(row(bob, sk), row(x(0), x(1))), 0)
	weighs(t, "Conds alone", conds(a, b), 0)
	weighs(t, "Tuples and Conds", whole(tuples(row(sk)), conds(b)), 0)
	weighs(t, "Lits, Tuples and Conds", whole(lits(b), tuples(row(sk)), conds(a)), 7)
	weighs(t, "as many codes as may be", lits(tower(49), tower(49), tower(49), tower(49), tower(44)), 240+5)
	heavy := not(slices.Concat([]int{between}, slices.Repeat([]int{sk}, 3))...)
	weighs(t, "heavy ones", lits(heavy, heavy, heavy, heavy, heavy), 5*61)
}

func varsAre(t *testing.T, what string, c api.Clause, want ...int) {
	t.Helper()
	if got, e := clause.Vars(symbols(), c); !slices.Equal(got, want) || e != api.OK {
		t.Errorf("P8.1 %s: Vars(%v) = %v, %d; want %v", what, c, got, e, want)
	}
}

func TestVars(t *testing.T) {
	varsAre(t, "nothing", api.Clause{})
	varsAre(t, "no variable", whole(lits(is(rains), not(tall, ann)), tuples(row(f, bob)), conds(not(eq, ann, bob))))
	varsAre(t, "empty Tuples", tuples(nil, row()))
	varsAre(t, "one", lits(is(tall, x(0))), 0)
	varsAre(t, "one several times", whole(lits(is(eq, x(5), x(5))), tuples(row(x(5))), conds(not(tall, x(5)))), 5)
	varsAre(t, "the greatest", lits(is(tall, x(api.MaxVar))), api.MaxVar)
	varsAre(t, "in Tuples only", tuples(row(x(api.MaxVar), x(3))), 3, api.MaxVar)
	varsAre(t, "in Conds only", conds(is(likes, x(22), x(1))), 1, 22)
	varsAre(t, "in Conds with Neg", conds(not(tall, x(2))), 2)
	varsAre(t, "in each", whole(lits(is(tall, x(20))), tuples(row(x(7))), conds(not(tall, x(11)))), 7, 11, 20)
	varsAre(t, "the least last", whole(lits(is(tall, x(9))), tuples(row(x(8))), conds(not(tall, x(0)))), 0, 8, 9)
	varsAre(t, "in several of each", whole(lits(is(rains), is(tall, x(4))), tuples(row(ann, f, x(2)), row(x(6), ann)), conds(is(rains), not(between, ann, ann, x(1)))), 1, 2, 4, 6)
	varsAre(t, "deep in terms", lits(is(tall, h, ann, g, x(3), f, f, x(1), x(2))), 1, 2, 3)
	all := []int{}
	codes := []int{}
	for v := range api.MaxVar + 1 {
		all = append(all, v)
		codes = append(codes, x(api.MaxVar-v))
	}
	varsAre(t, "all", tuples(codes), all...)
}

// P8.2.

func becomes(t *testing.T, what string, c, want api.Clause) {
	t.Helper()
	got, e := clause.Normal(symbols(), c)
	if !same(got, want) || e != api.OK {
		t.Errorf("P8.2 %s: Normal(%v) = %v, %d; want %v", what, c, got, e, want)
	}
	again, e := clause.Normal(symbols(), got)
	if !same(again, want) || e != api.OK {
		t.Errorf("P8.2 %s: Normal of Normal(%v) = %v, %d; want %v", what, c, again, e, want)
	}
}

func TestNormalOfNormalOnes(t *testing.T) {
	for _, c := range []api.Clause{
		{}, lits(is(rains)), lits(is(rains), not(rains)), lits(not(rains), is(rains)), lits(is(tall, x(0)), is(tall, x(1))), lits(is(eq, x(0), x(0))),
		tuples(nil), tuples(row(x(0), x(1)), row(x(1), x(0))), tuples(row(ann), row(bob), row(f, ann)), conds(is(rains), not(rains)), conds(is(tall, x(0)), is(tall, ann)),
		whole(lits(is(rains)), conds(is(rains))), whole(lits(is(tall, x(0))), tuples(row(x(0))), conds(is(tall, x(0)))),
		whole(lits(is(likes, x(0), x(1))), tuples(row(x(2)), row(x(0))), conds(not(likes, x(3), x(2)))),
	} {
		becomes(t, "as it is", c, c)
	}
}

func TestNormalLeavesOutEqualLits(t *testing.T) {
	a, b, c := is(tall, ann), not(tall, ann), is(tall, bob)
	becomes(t, "two", lits(a, a), lits(a))
	becomes(t, "five", lits(b, b, b, b, b), lits(b))
	becomes(t, "the first and the last", lits(a, b, c, a), lits(a, b, c))
	becomes(t, "by turns", lits(a, b, a, b, a), lits(a, b))
	becomes(t, "the first place counts", lits(c, a, b, a, c), lits(c, a, b))
	becomes(t, "in the middle", lits(c, a, a, b), lits(c, a, b))
	becomes(t, "without arguments", lits(is(rains), not(rains), is(rains), not(rains)), lits(is(rains), not(rains)))
	becomes(t, "other Neg are not equal", lits(b, a), lits(b, a))
	becomes(t, "sides exchanged are not equal", lits(is(eq, ann, bob), is(eq, bob, ann)), lits(is(eq, ann, bob), is(eq, bob, ann)))
	becomes(t, "a prefix is not equal", lits(is(tall, f, ann), is(tall, f, f, ann)), lits(is(tall, f, ann), is(tall, f, f, ann)))
	long := tower(api.MaxTerm + 1)
	becomes(t, "long ones", lits(long, long, long, long), lits(long))
}

func TestNormalLeavesOutEqualTuples(t *testing.T) {
	r, s := row(ann, x(0)), row(x(0), ann)
	becomes(t, "two", tuples(r, r), tuples(r))
	becomes(t, "three", tuples(r, r, r), tuples(r))
	becomes(t, "the first and the last", tuples(r, s, r), tuples(r, s))
	becomes(t, "behind another one", tuples(r, s, s), tuples(r, s))
	becomes(t, "empty ones", tuples(nil, row(), nil), tuples(row()))
	becomes(t, "unlike ones", tuples(row(ann), row(bob), row(f, ann)), tuples(row(ann), row(bob), row(f, ann)))
}

func TestNormalLeavesOutEqualConds(t *testing.T) {
	a, b := is(tall, ann), not(tall, ann)
	becomes(t, "two", conds(a, a), conds(a))
	becomes(t, "three", conds(b, b, b), conds(b))
	becomes(t, "the first and the last", conds(a, b, a), conds(a, b))
	becomes(t, "behind another one", conds(b, a, a), conds(b, a))
	becomes(t, "other Neg are not equal", conds(b, a), conds(b, a))
}

// A Lit, a Tuple and a Cond are never equal ones.
func TestNormalKeepsAcrossLists(t *testing.T) {
	a, b := is(tall, x(0)), not(rains)
	becomes(t, "a Lit and a Cond", whole(lits(a), conds(a)), whole(lits(a), conds(a)))
	becomes(t, "a Lit and a Cond, each twice", whole(lits(a, b, a), conds(b, b, a)), whole(lits(a, b), conds(b, a)))
	becomes(t, "in all three", whole(lits(b, b), tuples(row(x(0)), row(x(0))), conds(b, a, b)), whole(lits(b), tuples(row(x(0))), conds(b, a)))
}

func TestNormalRenumbers(t *testing.T) {
	becomes(t, "one variable", lits(is(tall, x(7))), lits(is(tall, x(0))))
	becomes(t, "the greatest", lits(not(likes, x(api.MaxVar), x(0))), lits(not(likes, x(0), x(1))))
	becomes(t, "exchanged", lits(is(likes, x(1), x(0))), lits(is(likes, x(0), x(1))))
	becomes(t, "exchanged, several times", lits(is(likes, x(1), x(0)), is(likes, x(0), x(1))), lits(is(likes, x(0), x(1)), is(likes, x(1), x(0))))
	becomes(t, "round", lits(is(between, x(1), x(2), x(0)), is(between, x(0), x(1), x(2))), lits(is(between, x(0), x(1), x(2)), is(between, x(2), x(0), x(1))))
	becomes(t, "in terms", lits(is(tall, h, x(5), g, x(3), x(5), f, x(4))), lits(is(tall, h, x(0), g, x(1), x(0), f, x(2))))
	becomes(t, "Tuples alone", tuples(row(x(4), x(2)), row(x(9), x(4))), tuples(row(x(0), x(1)), row(x(2), x(0))))
	becomes(t, "Conds alone", conds(is(tall, x(4)), not(likes, x(2), x(4))), conds(is(tall, x(0)), not(likes, x(1), x(0))))
	becomes(t, "Lits first", whole(lits(is(tall, x(2))), tuples(row(x(1))), conds(not(tall, x(0)))), whole(lits(is(tall, x(0))), tuples(row(x(1))), conds(not(tall, x(2)))))
	becomes(t, "Tuples before Conds", whole(tuples(row(x(1))), conds(is(likes, x(0), x(1)))), whole(tuples(row(x(0))), conds(is(likes, x(1), x(0)))))
	becomes(t, "all Lits before Tuples", whole(lits(is(rains), is(tall, x(9)), not(tall, x(8))), tuples(row(x(8), x(7)))), whole(lits(is(rains), is(tall, x(0)), not(tall, x(1))), tuples(row(x(1), x(2)))))
	becomes(t, "in Conds only", whole(lits(is(tall, x(3))), tuples(row(x(3))), conds(is(tall, x(3)), is(likes, x(3), x(0)))), whole(lits(is(tall, x(0))), tuples(row(x(0))), conds(is(tall, x(0)), is(likes, x(0), x(1)))))
	down, up := []int{}, []int{}
	for v := range api.MaxVar + 1 {
		down = append(down, x(api.MaxVar-v))
		up = append(up, x(v))
	}
	becomes(t, "all, downwards", tuples(down), tuples(up))
	becomes(t, "all, downwards and upwards", tuples(down, up), tuples(up, down))
}

// Lits that would be equal with other names of variables are not equal.
func TestNormalKeepsOtherVariables(t *testing.T) {
	becomes(t, "Lits", lits(is(tall, x(4)), is(tall, x(3)), is(tall, x(4))), lits(is(tall, x(0)), is(tall, x(1))))
	becomes(t, "Tuples", tuples(row(x(1)), row(x(0)), row(x(1))), tuples(row(x(0)), row(x(1))))
	becomes(t, "Conds", conds(is(tall, x(1)), is(tall, x(0)), is(tall, x(0))), conds(is(tall, x(0)), is(tall, x(1))))
	becomes(t, "a new name that another one had", lits(is(likes, x(1), x(1)), is(likes, x(0), x(0)), is(likes, x(0), x(1))), lits(is(likes, x(0), x(0)), is(likes, x(1), x(1)), is(likes, x(1), x(0))))
}

func TestNormalAtTheLimits(t *testing.T) {
	for _, c := range rightClauses() {
		n, e := clause.Normal(symbols(), c)
		if e != api.OK || !same(n, expectNormal(c)) || !clause.May(symbols(), n) {
			t.Errorf("P8.2: Normal(%v) = %v, %d", c, n, e)
		}
	}
}

// P8.3.

func trivialIs(t *testing.T, what string, c api.Clause, want bool) {
	t.Helper()
	if got, e := clause.Trivial(symbols(), c); got != want || e != api.OK {
		t.Errorf("P8.3 %s: Trivial(%v) = %t, %d; want %t", what, c, got, e, want)
	}
}

func TestTrivialByOpposites(t *testing.T) {
	a, b := is(likes, f, x(0), x(1)), not(likes, f, x(0), x(1))
	c, d := is(rains), not(tall, ann)
	trivialIs(t, "next to each other", lits(a, b), true)
	trivialIs(t, "with Neg first", lits(b, a), true)
	trivialIs(t, "first", lits(a, b, c, d), true)
	trivialIs(t, "last", lits(c, d, a, b), true)
	trivialIs(t, "in the middle", lits(c, b, a, d), true)
	trivialIs(t, "the first and the last", lits(a, c, d, c, b), true)
	trivialIs(t, "apart", lits(c, b, c, d, a), true)
	trivialIs(t, "equal ones between", lits(a, a, a, a, b), true)
	trivialIs(t, "without arguments", lits(not(rains), is(rains)), true)
	trivialIs(t, "long ones", lits(tower(49), not(tower(49).Atom...)), true)
	trivialIs(t, "equations", lits(is(eq, x(0), ann), not(eq, x(0), ann)), true)
	trivialIs(t, "beside Tuples and Conds", whole(lits(a, b), tuples(row(x(0))), conds(c)), true)
}

func TestNotTrivialByOpposites(t *testing.T) {
	a, b := is(likes, f, x(0), x(1)), not(likes, f, x(0), x(1))
	trivialIs(t, "nothing", api.Clause{}, false)
	trivialIs(t, "one", lits(a), false)
	trivialIs(t, "one with Neg", lits(b), false)
	trivialIs(t, "equal ones", lits(a, a, a), false)
	trivialIs(t, "equal ones with Neg", lits(b, b), false)
	trivialIs(t, "other variables", lits(is(tall, x(0)), not(tall, x(1))), false)
	trivialIs(t, "another predicate", lits(is(eq, x(0), x(1)), not(likes, x(0), x(1))), false)
	trivialIs(t, "sides exchanged", lits(is(eq, x(0), x(1)), not(eq, x(1), x(0))), false)
	trivialIs(t, "a longer one", lits(is(tall, f, x(0)), not(tall, f, f, x(0))), false)
	trivialIs(t, "a Lit and a Cond", whole(lits(a), conds(b)), false)
	trivialIs(t, "a Lit with Neg and a Cond", whole(lits(b), conds(a)), false)
	trivialIs(t, "two Conds", conds(a, b), false)
	trivialIs(t, "two Conds beside a Lit", whole(lits(is(rains)), tuples(row(ann)), conds(a, b)), false)
}

func TestTrivialByEquations(t *testing.T) {
	c, d := is(rains), not(tall, ann)
	for _, side := range [][]int{{x(0)}, {x(api.MaxVar)}, {ann}, {sk}, {f, x(0)}, {f, f, ann}, {g, x(0), f, x(1)}, {h, ann, g, x(0), x(1), bob}, one(24, x(3))} {
		yes, no := is(slices.Concat([]int{eq}, side, side)...), not(slices.Concat([]int{eq}, side, side)...)
		trivialIs(t, "alone", lits(yes), true)
		trivialIs(t, "first", lits(yes, c, d), true)
		trivialIs(t, "in the middle", lits(c, yes, d), true)
		trivialIs(t, "last", lits(c, d, c, d, yes), true)
		trivialIs(t, "beside one with Neg", lits(no, yes), true)
		trivialIs(t, "with Neg", lits(no), false)
		trivialIs(t, "with Neg beside others", lits(c, no, d), false)
		trivialIs(t, "as a Cond", whole(lits(c), conds(yes)), false)
		trivialIs(t, "as a Cond alone", conds(yes, no), false)
	}
}

func TestNotTrivialByEquations(t *testing.T) {
	for _, sides := range [][]int{
		{x(0), x(1)}, {ann, bob}, {x(0), ann}, {f, x(0), x(0)}, {x(0), f, x(0)}, {f, x(0), f, x(1)}, {g, x(0), x(1), g, x(1), x(0)},
		{f, f, ann, f, ann}, {f, ann, f, f, ann}, {g, ann, ann, ann}, {h, ann, ann, ann, ann}, {g, ann, g, ann, ann, ann}, slices.Concat(one(23, ann), one(25, ann)),
	} {
		trivialIs(t, "unlike sides", lits(is(slices.Concat([]int{eq}, sides)...)), false)
		trivialIs(t, "unlike sides with Neg", lits(not(slices.Concat([]int{eq}, sides)...)), false)
	}
	trivialIs(t, "another predicate of equal terms", lits(is(likes, x(0), x(0)), is(between, ann, ann, ann)), false)
	trivialIs(t, "a Tuple of equal terms", tuples(row(x(0), x(0))), false)
}

// P8.4.

func variantIs(t *testing.T, what string, c, d api.Clause, want bool) {
	t.Helper()
	if got, e := clause.Variant(symbols(), c, d); got != want || e != api.OK {
		t.Errorf("P8.4 %s: Variant(%v, %v) = %t, %d; want %t", what, c, d, got, e, want)
	}
	if got, e := clause.Variant(symbols(), d, c); got != want || e != api.OK {
		t.Errorf("P8.4 %s, the other way round: Variant(%v, %v) = %t, %d; want %t", what, d, c, got, e, want)
	}
}

func TestVariant(t *testing.T) {
	a, b := is(likes, x(0), x(1)), not(tall, x(1))
	variantIs(t, "nothing", api.Clause{}, api.Clause{Lits: []api.Lit{}, Tuples: [][]int{}, Conds: []api.Lit{}}, true)
	variantIs(t, "itself", lits(a, b), lits(a, b), true)
	variantIs(t, "other names", lits(a, b), lits(is(likes, x(9), x(api.MaxVar)), not(tall, x(api.MaxVar))), true)
	variantIs(t, "names exchanged", lits(a, b), lits(is(likes, x(1), x(0)), not(tall, x(0))), true)
	variantIs(t, "other names everywhere", whole(lits(b), tuples(row(x(0), x(1))), conds(a)), whole(lits(not(tall, x(3))), tuples(row(x(2), x(3))), conds(is(likes, x(2), x(3)))), true)
	variantIs(t, "other names in Tuples", tuples(row(x(4), x(4)), row(x(5), x(6))), tuples(row(x(1), x(1)), row(x(0), x(2))), true)
	variantIs(t, "other names in Conds", conds(a, b), conds(is(likes, x(3), x(2)), not(tall, x(2))), true)
	variantIs(t, "equal Lits", lits(a, b, a, a), lits(a, b), true)
	variantIs(t, "equal Lits and other names", lits(is(tall, x(2)), is(tall, x(2))), lits(is(tall, x(5))), true)
	variantIs(t, "equal Tuples", tuples(row(x(1)), row(x(1))), tuples(row(x(2))), true)
	variantIs(t, "equal Conds", conds(b, b, a), conds(b, a, a), true)
	variantIs(t, "empty Tuples", tuples(nil, row()), tuples(row()), true)
}

func TestNotVariant(t *testing.T) {
	a, b := is(likes, x(0), x(1)), not(tall, x(1))
	variantIs(t, "something and nothing", lits(a), api.Clause{}, false)
	variantIs(t, "the order of Lits", lits(a, b), lits(b, a), false)
	variantIs(t, "the order of Lits without variables", lits(is(tall, ann), is(rains)), lits(is(rains), is(tall, ann)), false)
	variantIs(t, "the order of Tuples", tuples(row(ann), row(x(0))), tuples(row(x(0)), row(ann)), false)
	variantIs(t, "the order of Conds", conds(a, b), conds(b, a), false)
	variantIs(t, "Neg of a Lit", lits(a), lits(not(likes, x(0), x(1))), false)
	variantIs(t, "Neg of the last Lit", lits(a, b), lits(a, is(tall, x(1))), false)
	variantIs(t, "Neg of a Cond", conds(is(rains)), conds(not(rains)), false)
	variantIs(t, "one variable and two", lits(is(likes, x(0), x(0))), lits(a), false)
	variantIs(t, "one variable and two in two Lits", lits(is(tall, x(0)), not(rains), is(likes, x(0), ann)), lits(is(tall, x(0)), not(rains), is(likes, x(1), ann)), false)
	variantIs(t, "a variable and a constant", lits(is(tall, x(0))), lits(is(tall, ann)), false)
	variantIs(t, "another Tuple", whole(lits(a), tuples(row(x(0)))), whole(lits(a), tuples(row(x(1)))), false)
	variantIs(t, "another Cond", whole(lits(a), conds(is(tall, x(0)))), whole(lits(a), conds(is(tall, x(1)))), false)
	variantIs(t, "a Lit and a Cond", lits(a), conds(a), false)
	variantIs(t, "one Lit more", lits(a), lits(a, b), false)
	variantIs(t, "one Tuple more", tuples(row(ann)), tuples(row(ann), row(bob)), false)
	variantIs(t, "one Cond more", conds(b, a), conds(b), false)
	variantIs(t, "an empty Tuple and none", tuples(row()), api.Clause{}, false)
	variantIs(t, "an empty Tuple and another one", tuples(row()), tuples(row(x(0))), false)
	variantIs(t, "the sides of an equation", lits(is(eq, ann, bob)), lits(is(eq, bob, ann)), false)
	variantIs(t, "long ones", lits(tower(49)), lits(tower(48)), false)
}

func TestVariantRefusesEither(t *testing.T) {
	right := lits(is(rains))
	for i, wrong := range wrongClauses() {
		for _, pair := range [][2]api.Clause{{right, wrong}, {wrong, right}, {wrong, wrong}} {
			if got, e := clause.Variant(symbols(), pair[0], pair[1]); got || e != api.ErrClauseForm {
				t.Errorf("P8.4, R2: wrong clause %d: Variant = %t, %d", i, got, e)
			}
		}
	}
}
