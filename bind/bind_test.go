package bind_test

import (
	"math"
	"slices"
	"strconv"
	"testing"

	"quaere/api"
	"quaere/bind"
)

// The codes of symbols().
const (
	eq = iota
	likes
	ann
	f
	g
	h
	sk
	sk2
	beyond // no symbol has this code
)

func symbols() []api.Sym {
	return []api.Sym{
		eq:    {Name: "=", Kind: api.KindPred, Arity: 2, Weight: 1},
		likes: {Name: "likes", Kind: api.KindPred, Arity: 2, Weight: 1},
		ann:   {Name: "ann", Kind: api.KindFun, Arity: 0, Weight: 2},
		f:     {Name: "f", Kind: api.KindFun, Arity: 1, Weight: 3},
		g:     {Name: "g", Kind: api.KindFun, Arity: 2, Weight: 5},
		h:     {Name: "h", Kind: api.KindFun, Arity: api.MaxArity, Weight: 7},
		sk:    {Name: "sk", Kind: api.KindSkolem, Arity: 0, Weight: api.MaxWeight},
		sk2:   {Name: "sk2", Kind: api.KindSkolem, Arity: 2, Weight: 13},
	}
}

func wrongSignatures() map[string][]api.Sym {
	return map[string][]api.Sym{
		"nil":             nil,
		"without =":       symbols()[likes:],
		"a name twice":    append(symbols(), symbols()[f]),
		"arity below 0":   append(symbols(), api.Sym{Name: "z", Kind: api.KindFun, Arity: -1, Weight: 1}),
		"arity too great": append(symbols(), api.Sym{Name: "z", Kind: api.KindFun, Arity: math.MaxInt, Weight: 1}),
		"wrong kind":      append(symbols(), api.Sym{Name: "z", Kind: math.MinInt, Weight: 1}),
		"weight 0":        append(symbols(), api.Sym{Name: "z", Kind: api.KindFun}),
		"too many":        slices.Repeat(symbols(), 3),
	}
}

// x is the code of the variable v.
func x(v int) int {
	return -1 - v
}

// row joins lists of codes.
func row(parts ...[]int) []int {
	return slices.Concat(parts...)
}

func some(n int, codes ...int) []int {
	return slices.Repeat(codes, n)
}

// to is the bind of v to the term that the codes are.
func to(v int, codes ...int) api.Bind {
	return api.Bind{Var: v, Term: codes}
}

func binds(list ...api.Bind) []api.Bind {
	return list
}

// one is a term of n codes with the variable v at its end.
func one(n, v int) []int {
	return row(some(n-1, f), []int{x(v)})
}

func sameBinds(a, b []api.Bind) bool {
	return slices.EqualFunc(a, b, func(p, q api.Bind) bool {
		return p.Var == q.Var && slices.Equal(p.Term, q.Term)
	})
}

type bindCase struct {
	what string
	s    []api.Bind
}

func everyVar() []api.Bind {
	var out []api.Bind
	for v := range api.MaxVar + 1 {
		out = append(out, to(v, f, x(v)))
	}
	return out
}

func validCases() []bindCase {
	return []bindCase{
		{"nil", nil},
		{"empty", binds()},
		{"variable 0", binds(to(0, ann))},
		{"variable MaxVar", binds(to(api.MaxVar, ann))},
		{"to a skolem term", binds(to(4, sk2, sk, x(2)))},
		{"to another variable", binds(to(3, x(4)))},
		{"holds its own variable", binds(to(3, f, x(3)))},
		{"holds its own variable twice", binds(to(3, g, x(3), x(3)))},
		{"exchanges two variables", binds(to(0, x(1)), to(1, x(0)))},
		{"0 and MaxVar", binds(to(0, x(api.MaxVar)), to(api.MaxVar, x(0)))},
		{"every variable", everyVar()},
		{"MaxTerm codes", binds(to(1, one(api.MaxTerm, 1)...))},
	}
}

func wrongCases() []bindCase {
	return []bindCase{
		{"variable -1", binds(to(-1, ann))},
		{"variable MaxVar+1", binds(to(api.MaxVar+1, ann))},
		{"least number", binds(to(math.MinInt, ann))},
		{"greatest number", binds(to(math.MaxInt, ann))},
		{"a variable twice", binds(to(2, ann), to(2, sk))},
		{"a variable twice with the same term", binds(to(2, ann), to(2, ann))},
		{"descending", binds(to(2, ann), to(1, sk))},
		{"descending at the end", binds(to(0, ann), to(5, ann), to(4, ann))},
		{"a variable again at the end", binds(to(0, ann), to(5, ann), to(0, sk))},
		{"one too many", append(everyVar(), to(api.MaxVar+1, ann))},
		{"its own variable", binds(to(2, x(2)))},
		{"its own variable 0", binds(to(0, x(0)))},
		{"its own variable MaxVar", binds(to(api.MaxVar, x(api.MaxVar)))},
		{"its own variable, last", binds(to(0, x(1)), to(1, x(1)))},
		{"no codes", binds(api.Bind{Var: 1, Term: nil})},
		{"no codes, not nil", binds(api.Bind{Var: 1, Term: []int{}})},
		{"two terms", binds(to(1, ann, ann))},
		{"two variables", binds(to(1, x(1), x(1)))},
		{"cut short", binds(to(1, g, ann))},
		{"an atom", binds(to(1, likes, ann, ann))},
		{"a predicate inside", binds(to(1, f, likes))},
		{"no symbol", binds(to(1, beyond))},
		{"no variable", binds(to(1, x(api.MaxVar+1)))},
		{"greatest code", binds(to(1, math.MaxInt))},
		{"least code", binds(to(1, math.MinInt))},
		{"too long", binds(to(1, one(api.MaxTerm+1, 0)...))},
		{"wrong at the end", binds(to(1, ann), to(2, f))},
	}
}

func wrongRows() map[string][]int {
	return map[string][]int{
		"cut short":      {f},
		"an atom":        {likes, ann, ann},
		"a predicate":    {ann, eq},
		"no symbol":      {beyond},
		"no variable":    {x(api.MaxVar + 1)},
		"greatest code":  {math.MaxInt},
		"least code":     {math.MinInt},
		"too long":       some(api.MaxTerm+1, ann),
		"much too long":  some(1<<16, x(0)),
		"a wrong second": {ann, g, ann},
	}
}

// applied is a call of Apply and what it is to answer.
func applied(t *testing.T, what string, s []api.Bind, r, want []int, wantE api.Errno) {
	t.Helper()
	got, e := bind.Apply(symbols(), s, r)
	if e != wantE || !slices.Equal(got, want) {
		t.Errorf("P3.2 %s: Apply(%v, %v) = %v, %d; want %v, %d", what, s, r, got, e, want, wantE)
	}
}

func followed(t *testing.T, what string, s, u, want []api.Bind, wantE api.Errno) {
	t.Helper()
	got, e := bind.Then(symbols(), s, u)
	if e != wantE || !sameBinds(got, want) {
		t.Errorf("P3.3 %s: Then(%v, %v) = %v, %d; want %v, %d", what, s, u, got, e, want, wantE)
	}
}

func shifted(t *testing.T, what string, r []int, by int, want []int, wantE api.Errno) {
	t.Helper()
	got, e := bind.Shift(symbols(), r, by)
	if e != wantE || !slices.Equal(got, want) {
		t.Errorf("P3.4 %s: Shift(%v, %d) = %v, %d; want %v, %d", what, r, by, got, e, want, wantE)
	}
}

func TestValidSubstitutions(t *testing.T) {
	for _, c := range validCases() {
		if !bind.May(symbols(), c.s) {
			t.Errorf("P3.1 %s: %v is refused", c.what, c.s)
		}
		applied(t, c.what, c.s, nil, nil, api.OK)
		followed(t, c.what, c.s, nil, c.s, api.OK)
		followed(t, c.what, nil, c.s, c.s, api.OK)
	}
}

func TestWrongSubstitutions(t *testing.T) {
	for _, c := range wrongCases() {
		if bind.May(symbols(), c.s) {
			t.Errorf("P3.1 %s: %v is taken", c.what, c.s)
		}
		applied(t, c.what, c.s, nil, nil, api.ErrBindForm)
		applied(t, c.what, c.s, []int{x(1), ann}, nil, api.ErrBindForm)
		followed(t, c.what, c.s, nil, nil, api.ErrBindForm)
		followed(t, c.what, nil, c.s, nil, api.ErrBindForm)
		followed(t, c.what, c.s, c.s, nil, api.ErrBindForm)
	}
}

func TestWrongSignatures(t *testing.T) {
	for what, sig := range wrongSignatures() {
		for _, c := range validCases() {
			if bind.May(sig, c.s) {
				t.Errorf("P3.1 %s, %s: taken", what, c.what)
			}
			if got, e := bind.Apply(sig, c.s, nil); e != api.ErrBindForm || got != nil {
				t.Errorf("P3.2 %s, %s: %v, %d", what, c.what, got, e)
			}
			if got, e := bind.Then(sig, c.s, nil); e != api.ErrBindForm || got != nil {
				t.Errorf("P3.3 %s, %s: %v, %d", what, c.what, got, e)
			}
			if got, e := bind.Then(sig, nil, c.s); e != api.ErrBindForm || got != nil {
				t.Errorf("P3.3 %s, %s: %v, %d", what, c.what, got, e)
			}
		}
		for _, r := range [][]int{nil, {x(0)}, {ann}} {
			if got, e := bind.Shift(sig, r, 0); e != api.ErrBindForm || got != nil {
				t.Errorf("P3.4 %s, %v: %v, %d", what, r, got, e)
			}
		}
	}
}

func TestWrongRows(t *testing.T) {
	for what, r := range wrongRows() {
		applied(t, what, nil, r, nil, api.ErrBindForm)
		applied(t, what, binds(to(0, ann)), r, nil, api.ErrBindForm)
		for _, by := range []int{0, 1, -1} {
			shifted(t, what, r, by, nil, api.ErrBindForm)
		}
	}
}

// The signature decides whether a code is a symbol: one more symbol makes a bind or a row valid.
func TestSignatureIsRead(t *testing.T) {
	more := append(symbols(), api.Sym{Name: "z", Kind: api.KindFun, Arity: 1, Weight: 1})
	s := binds(to(0, beyond, ann))
	if bind.May(symbols(), s) || !bind.May(more, s) {
		t.Error("P3.1: the signature is not read")
	}
	if got, e := bind.Apply(more, s, []int{beyond, x(0)}); e != api.OK || !slices.Equal(got, []int{beyond, beyond, ann}) {
		t.Errorf("P3.2: %v, %d", got, e)
	}
	if got, e := bind.Shift(more, []int{beyond, x(0)}, 1); e != api.OK || !slices.Equal(got, []int{beyond, x(1)}) {
		t.Errorf("P3.4: %v, %d", got, e)
	}
}

func TestApply(t *testing.T) {
	swap := binds(to(0, x(1)), to(1, x(0)))
	chain := binds(to(0, x(1)), to(1, x(2)), to(2, ann))
	for _, c := range []struct {
		what    string
		s       []api.Bind
		r, want []int
	}{
		{"no binds, no row", nil, nil, nil},
		{"no binds", nil, []int{g, x(0), x(23)}, []int{g, x(0), x(23)}},
		{"no variables", binds(to(0, f, ann)), []int{g, ann, sk}, []int{g, ann, sk}},
		{"other variables", binds(to(0, ann)), []int{x(1), x(2)}, []int{x(1), x(2)}},
		{"a variable alone", binds(to(3, f, ann)), []int{x(3)}, []int{f, ann}},
		{"a variable several times", binds(to(3, f, ann)), []int{g, x(3), x(3), x(3)}, []int{g, f, ann, f, ann, f, ann}},
		{"variables 0 and MaxVar", binds(to(0, ann), to(api.MaxVar, sk)), []int{x(api.MaxVar), x(0)}, []int{sk, ann}},
		{"the first and the last code", binds(to(5, sk)), []int{x(5), f, ann, x(5)}, []int{sk, f, ann, sk}},
		{"two are exchanged", swap, []int{g, x(0), x(1)}, []int{g, x(1), x(0)}},
		{"a chain is followed once only", chain, []int{x(0), x(1), x(2)}, []int{x(1), x(2), ann}},
		{"a term with its own variable", binds(to(0, g, x(0), x(0))), []int{f, x(0)}, []int{f, g, x(0), x(0)}},
		{"deep inside", binds(to(2, sk2, x(1), x(2)), to(7, x(2))), []int{h, x(7), f, f, x(2), x(1)}, []int{h, x(2), f, f, sk2, x(1), x(2), x(1)}},
		{"every variable", everyVar(), []int{x(0), x(11), x(23)}, []int{f, x(0), f, x(11), f, x(23)}},
		{"a symbol's code is no variable", binds(to(ann, f, ann)), []int{ann, x(ann)}, []int{ann, f, ann}},
	} {
		applied(t, c.what, c.s, c.r, c.want, api.OK)
	}
}

func TestApplyLength(t *testing.T) {
	long := binds(to(0, one(api.MaxTerm, 3)...))
	applied(t, "MaxTerm codes by one bind", long, []int{x(0)}, one(api.MaxTerm, 3), api.OK)
	applied(t, "one code before", long, []int{f, x(0)}, nil, api.ErrBindLong)
	applied(t, "one code behind", long, []int{x(0), ann}, nil, api.ErrBindLong)
	applied(t, "not used", long, some(api.MaxTerm, x(1)), some(api.MaxTerm, x(1)), api.OK)
	pair := binds(to(0, f, ann))
	applied(t, "MaxTerm codes by many", pair, some(24, x(0)), some(24, f, ann), api.OK)
	applied(t, "one more code", pair, row(some(24, x(0)), []int{ann}), nil, api.ErrBindLong)
	applied(t, "one more variable", pair, some(25, x(0)), nil, api.ErrBindLong)
	applied(t, "one for one", binds(to(0, ann)), some(api.MaxTerm, x(0)), some(api.MaxTerm, ann), api.OK)
	applied(t, "all of the longest", long, some(api.MaxTerm, x(0)), nil, api.ErrBindLong)
}

func TestThen(t *testing.T) {
	swap := binds(to(0, x(1)), to(1, x(0)))
	for _, c := range []struct {
		what       string
		s, u, want []api.Bind
	}{
		{"nothing", nil, nil, nil},
		{"one after the other", binds(to(0, f, x(1))), binds(to(1, ann)), binds(to(0, f, ann), to(1, ann))},
		{"the other way round", binds(to(1, ann)), binds(to(0, f, x(1))), binds(to(0, f, x(1)), to(1, ann))},
		{"s goes first", binds(to(2, ann)), binds(to(2, sk)), binds(to(2, ann))},
		{"s goes first, of a variable", binds(to(2, x(3))), binds(to(2, sk)), binds(to(2, x(3)))},
		{"u goes between", binds(to(0, ann), to(5, ann)), binds(to(3, sk)), binds(to(0, ann), to(3, sk), to(5, ann))},
		{"u goes outside", binds(to(3, ann)), binds(to(0, sk), to(23, sk)), binds(to(0, sk), to(3, ann), to(23, sk))},
		{"Terms of u are not followed", nil, binds(to(0, x(1)), to(1, ann)), binds(to(0, x(1)), to(1, ann))},
		{"u all at the same time", binds(to(5, g, x(0), x(1))), swap, binds(to(0, x(1)), to(1, x(0)), to(5, g, x(1), x(0)))},
		{"itself twice", binds(to(0, f, x(0))), binds(to(0, f, x(0))), binds(to(0, f, f, x(0)))},
		{"exchanged and back", swap, swap, nil},
		{"one back, one not", binds(to(0, x(1))), binds(to(1, x(0))), binds(to(1, x(0)))},
		{"back, though u has its bind", binds(to(0, x(1))), binds(to(0, ann), to(1, x(0))), binds(to(1, x(0)))},
		{"renamed and back", binds(to(0, x(23))), binds(to(0, ann), to(23, x(0))), binds(to(23, x(0)))},
		{"not back, only inside", binds(to(0, x(1))), binds(to(1, f, x(0))), binds(to(0, f, x(0)), to(1, f, x(0)))},
		{"round three variables", binds(to(0, x(1)), to(1, x(2)), to(2, x(0))), binds(to(0, x(1)), to(1, x(2)), to(2, x(0))), binds(to(0, x(2)), to(1, x(0)), to(2, x(1)))},
		{"round three variables and back", binds(to(0, x(1)), to(1, x(2)), to(2, x(0))), binds(to(0, x(2)), to(1, x(0)), to(2, x(1))), nil},
	} {
		followed(t, c.what, c.s, c.u, c.want, api.OK)
	}
}

func TestThenLength(t *testing.T) {
	long := binds(to(1, one(api.MaxTerm, 3)...))
	followed(t, "MaxTerm codes", binds(to(0, x(1))), long, binds(to(0, one(api.MaxTerm, 3)...), long[0]), api.OK)
	followed(t, "one more code", binds(to(0, f, x(1))), long, nil, api.ErrBindLong)
	followed(t, "too long behind", binds(to(0, ann), to(22, f, x(1))), long, nil, api.ErrBindLong)
	followed(t, "MaxTerm codes by two", binds(to(2, one(47, 1)...)), binds(to(1, f, ann)), binds(to(1, f, ann), to(2, row(some(47, f), []int{ann})...)), api.OK)
	followed(t, "one more code by two", binds(to(2, one(48, 1)...)), binds(to(1, f, ann)), nil, api.ErrBindLong)
	followed(t, "s's Term instead of u's", binds(to(1, f, x(0))), long, binds(to(1, f, x(0))), api.OK)
	followed(t, "Terms of u in Terms of u", nil, binds(to(0, f, x(1)), long[0]), binds(to(0, f, x(1)), long[0]), api.OK)
	followed(t, "all in all more than MaxTerm", binds(to(0, one(48, 0)...)), binds(to(1, one(48, 0)...)), binds(to(0, one(48, 0)...), to(1, one(48, 0)...)), api.OK)
}

func TestShift(t *testing.T) {
	for _, c := range []struct {
		what string
		r    []int
		by   int
		want []int
	}{
		{"nothing", nil, 5, nil},
		{"by 0", []int{g, x(0), x(23)}, 0, []int{g, x(0), x(23)}},
		{"up", []int{g, x(0), f, x(4), ann}, 3, []int{g, x(3), f, x(7), ann}},
		{"down", []int{g, x(3), f, x(7), ann}, -3, []int{g, x(0), f, x(4), ann}},
		{"up to MaxVar", []int{x(0)}, api.MaxVar, []int{x(api.MaxVar)}},
		{"down to 0", []int{x(api.MaxVar)}, -api.MaxVar, []int{x(0)}},
		{"both to the bounds", []int{x(2), x(20)}, 3, []int{x(5), x(23)}},
		{"no variables, by the greatest number", []int{ann, f, sk}, math.MaxInt, []int{ann, f, sk}},
		{"no variables, by the least number", []int{ann, f, sk}, math.MinInt, []int{ann, f, sk}},
		{"MaxTerm codes", some(api.MaxTerm, x(1)), 1, some(api.MaxTerm, x(2))},
	} {
		shifted(t, c.what, c.r, c.by, c.want, api.OK)
	}
}

func TestShiftFar(t *testing.T) {
	for _, c := range []struct {
		what string
		r    []int
		by   int
	}{
		{"one above MaxVar", []int{x(api.MaxVar)}, 1},
		{"0 above MaxVar", []int{x(0)}, api.MaxVar + 1},
		{"one below 0", []int{x(0)}, -1},
		{"MaxVar below 0", []int{x(api.MaxVar)}, -api.MaxVar - 1},
		{"the first only, up", []int{x(21), x(20)}, 3},
		{"the last only, up", []int{x(20), ann, f, x(21)}, 3},
		{"the first only, down", []int{x(2), x(3)}, -3},
		{"the last only, down", []int{x(3), ann, f, x(2)}, -3},
		{"by the greatest number", []int{x(0)}, math.MaxInt},
		{"23 by the greatest number", []int{x(23)}, math.MaxInt},
		{"by the least number", []int{x(0)}, math.MinInt},
		{"23 by the least number", []int{x(23)}, math.MinInt},
	} {
		shifted(t, c.what, c.r, c.by, nil, api.ErrBindFar)
	}
}

// Every variable by every number, on both sides of both bounds.
func TestShiftBounds(t *testing.T) {
	for v := range api.MaxVar + 1 {
		for by := -2 * api.MaxVar; by <= 2*api.MaxVar; by++ {
			what := strconv.Itoa(v) + " by " + strconv.Itoa(by)
			if v+by < 0 || v+by > api.MaxVar {
				shifted(t, what, []int{ann, x(v)}, by, nil, api.ErrBindFar)
			} else {
				shifted(t, what, []int{ann, x(v)}, by, []int{ann, x(v + by)}, api.OK)
			}
		}
	}
}

func TestFirstError(t *testing.T) {
	long := binds(to(1, one(api.MaxTerm, 3)...))
	wrong := append(slices.Clone(long), to(2, x(2)))
	applied(t, "R6: s not valid, too long", wrong, []int{f, x(1)}, nil, api.ErrBindForm)
	applied(t, "R6: too long, then no row", long, []int{f, x(1), f}, nil, api.ErrBindForm)
	followed(t, "R6: u not valid, too long", binds(to(0, f, x(1))), wrong, nil, api.ErrBindForm)
	followed(t, "R6: s not valid, too long", binds(to(0, f, x(1)), to(2, x(2))), long, nil, api.ErrBindForm)
	shifted(t, "R6: far, then no row", []int{x(0), f}, -1, nil, api.ErrBindForm)
	shifted(t, "R6: far and too many codes", some(api.MaxTerm+1, x(0)), -1, nil, api.ErrBindForm)
	sig := append(symbols(), symbols()[f])
	if got, e := bind.Apply(sig, long, []int{f, x(1)}); e != api.ErrBindForm || got != nil {
		t.Errorf("P3.2 R6: sig not valid, too long: %v, %d", got, e)
	}
	if got, e := bind.Then(sig, binds(to(0, f, x(1))), long); e != api.ErrBindForm || got != nil {
		t.Errorf("P3.3 R6: sig not valid, too long: %v, %d", got, e)
	}
	if got, e := bind.Shift(sig, []int{x(0)}, -1); e != api.ErrBindForm || got != nil {
		t.Errorf("P3.4 R6: sig not valid, far: %v, %d", got, e)
	}
}
