package term_test

import (
	"math"
	"slices"
	"strconv"
	"testing"

	"quaere/api"
	"quaere/term"
)

// The codes of symbols().
const (
	eq = iota
	likes
	rains
	ann
	f
	g
	h
	sk
	sk1
	sk2
	sk3
	between
	beyond // no symbol has this code
)

// symbols has functions and skolem functions of every arity, and predicates before, behind and among them.
func symbols() []api.Sym {
	return []api.Sym{
		eq:      {Name: "=", Kind: api.KindPred, Arity: 2, Weight: 1},
		likes:   {Name: "likes", Kind: api.KindPred, Arity: 2, Weight: 1},
		rains:   {Name: "rains", Kind: api.KindPred, Arity: 0, Weight: 1},
		ann:     {Name: "ann", Kind: api.KindFun, Arity: 0, Weight: 2},
		f:       {Name: "f", Kind: api.KindFun, Arity: 1, Weight: 3},
		g:       {Name: "g", Kind: api.KindFun, Arity: 2, Weight: 5},
		h:       {Name: "h", Kind: api.KindFun, Arity: api.MaxArity, Weight: 7},
		sk:      {Name: "sk", Kind: api.KindSkolem, Arity: 0, Weight: api.MaxWeight},
		sk1:     {Name: "sk1", Kind: api.KindSkolem, Arity: 1, Weight: 11},
		sk2:     {Name: "sk2", Kind: api.KindSkolem, Arity: 2, Weight: 13},
		sk3:     {Name: "sk3", Kind: api.KindSkolem, Arity: api.MaxArity, Weight: 17},
		between: {Name: "between", Kind: api.KindPred, Arity: 3, Weight: 19},
	}
}

// x is the code of the variable v.
func x(v int) int {
	return -1 - v
}

// row joins codes and lists of codes.
func row(parts ...[]int) []int {
	return slices.Concat(parts...)
}

func some(n int, codes ...int) []int {
	return slices.Repeat(codes, n)
}

// facts is what the six functions tell of a row.
type facts struct {
	starts []int
	ends   []int
	vars   []int
	weight int
	deep   int
}

type rowCase struct {
	what string
	r    []int
	want facts
}

func upTo(n int) []int {
	var out []int
	for i := range n {
		out = append(out, i)
	}
	return out
}

func plainCases() []rowCase {
	return []rowCase{
		{"nil", nil, facts{}},
		{"empty", []int{}, facts{}},
		{"variable 0", []int{x(0)}, facts{[]int{0}, []int{1}, []int{0}, 1, 1}},
		{"variable MaxVar", []int{x(api.MaxVar)}, facts{[]int{0}, []int{1}, []int{api.MaxVar}, 1, 1}},
		{"constant", []int{ann}, facts{[]int{0}, []int{1}, nil, 2, 1}},
		{"skolem constant", []int{sk}, facts{[]int{0}, []int{1}, nil, api.MaxWeight, 1}},
		{"arity 1", []int{f, ann}, facts{[]int{0}, []int{2, 2}, nil, 5, 2}},
		{"skolem arity 1", []int{sk1, x(3)}, facts{[]int{0}, []int{2, 2}, []int{3}, 12, 2}},
		{"arity 2", []int{g, ann, x(1)}, facts{[]int{0}, []int{3, 2, 3}, []int{1}, 8, 2}},
		{"skolem arity 2", []int{sk2, x(2), x(1)}, facts{[]int{0}, []int{3, 2, 3}, []int{1, 2}, 15, 2}},
		{"arity 3", []int{h, x(5), ann, x(5)}, facts{[]int{0}, []int{4, 2, 3, 4}, []int{5}, 11, 2}},
		{"skolem arity 3", []int{sk3, sk, ann, sk}, facts{[]int{0}, []int{4, 2, 3, 4}, nil, 59, 2}},
		{"three terms", []int{ann, f, x(7), g, x(2), ann}, facts{[]int{0, 1, 3}, []int{1, 3, 3, 6, 5, 6}, []int{2, 7}, 14, 2}},
		{"deepest first", []int{f, f, f, ann, ann}, facts{[]int{0, 4}, []int{4, 4, 4, 4, 5}, nil, 13, 4}},
		{"deepest last", []int{ann, f, f, f, ann}, facts{[]int{0, 1}, []int{1, 5, 5, 5, 5}, nil, 13, 4}},
		{"deepest argument first", []int{g, f, f, ann, ann}, facts{[]int{0}, []int{5, 4, 4, 4, 5}, nil, 15, 4}},
		{"deepest argument in the middle", []int{h, ann, f, f, ann, ann}, facts{[]int{0}, []int{6, 2, 5, 5, 5, 6}, nil, 19, 4}},
		{"deepest argument last", []int{g, ann, f, f, ann}, facts{[]int{0}, []int{5, 2, 5, 5, 5}, nil, 15, 4}},
		{"variables out of order, twice", []int{x(9), x(1), x(23), x(1), x(0), x(9)}, facts{[]int{0, 1, 2, 3, 4, 5}, []int{1, 2, 3, 4, 5, 6}, []int{0, 1, 9, 23}, 6, 1}},
	}
}

func greatCases() []rowCase {
	var all []int
	for v := api.MaxVar; v >= 0; v-- {
		all = append(all, x(v))
	}
	one := make([]int, api.MaxTerm)
	for i := range one {
		one[i] = api.MaxTerm
	}
	left := row(some(23, g), some(24, ann))
	leftEnds := make([]int, 47)
	for i := range leftEnds {
		leftEnds[i] = i + 1
		if i < 23 {
			leftEnds[i] = 47 - i
		}
	}
	singles := upTo(api.MaxTerm + 1)[1:]
	return []rowCase{
		{"every variable", all, facts{upTo(24), upTo(25)[1:], upTo(24), 24, 1}},
		{"MaxTerm variables", some(api.MaxTerm, x(6)), facts{upTo(api.MaxTerm), singles, []int{6}, api.MaxTerm, 1}},
		{"MaxTerm heavy codes", some(api.MaxTerm, sk), facts{upTo(api.MaxTerm), singles, nil, api.MaxTerm * api.MaxWeight, 1}},
		{"MaxTerm deep", row(some(api.MaxTerm-1, f), []int{x(4)}), facts{[]int{0}, one, []int{4}, 3*47 + 1, api.MaxTerm}},
		{"pairs within first arguments", left, facts{[]int{0}, leftEnds, nil, 23*5 + 24*2, 24}},
	}
}

// tell asks all functions about a row that is one.
func tell(t *testing.T, sig []api.Sym, r []int) (int, facts) {
	t.Helper()
	var got facts
	n, e := term.Row(sig, r)
	starts, e1 := term.Starts(sig, r)
	vars, e2 := term.Vars(sig, r)
	weight, e3 := term.Weight(sig, r)
	deep, e4 := term.Deep(sig, r)
	for i, e := range []api.Errno{e, e1, e2, e3, e4} {
		if e != api.OK {
			t.Errorf("%v: function %d: error %d", r, i, e)
		}
	}
	for at := range r {
		end, e := term.End(sig, r, at)
		if e != api.OK {
			t.Errorf("P2.2: %v at %d: error %d", r, at, e)
		}
		got.ends = append(got.ends, end)
	}
	got.starts, got.vars, got.weight, got.deep = starts, vars, weight, deep
	return n, got
}

func compare(t *testing.T, what string, n int, got, want facts) {
	t.Helper()
	if n != len(want.starts) {
		t.Errorf("P2.1: Row, %s: %d, not %d", what, n, len(want.starts))
	}
	if !slices.Equal(got.starts, want.starts) {
		t.Errorf("P2.1: Starts, %s: %v, not %v", what, got.starts, want.starts)
	}
	if !slices.Equal(got.ends, want.ends) {
		t.Errorf("P2.2: End, %s: %v, not %v", what, got.ends, want.ends)
	}
	if !slices.Equal(got.vars, want.vars) {
		t.Errorf("P2.3: Vars, %s: %v, not %v", what, got.vars, want.vars)
	}
	if got.weight != want.weight {
		t.Errorf("P2.3: Weight, %s: %d, not %d", what, got.weight, want.weight)
	}
	if got.deep != want.deep {
		t.Errorf("P2.3: Deep, %s: %d, not %d", what, got.deep, want.deep)
	}
}

func TestRows(t *testing.T) {
	for _, c := range slices.Concat(plainCases(), greatCases()) {
		n, got := tell(t, symbols(), c.r)
		compare(t, c.what, n, got, c.want)
	}
}

// refused asks all functions and expects ErrTermForm and nothing beside it.
func refused(t *testing.T, what string, sig []api.Sym, r []int) {
	t.Helper()
	if n, e := term.Row(sig, r); n != 0 || e != api.ErrTermForm {
		t.Errorf("P2.1: Row, %s: %d, %d", what, n, e)
	}
	if at, e := term.Starts(sig, r); len(at) != 0 || e != api.ErrTermForm {
		t.Errorf("P2.1: Starts, %s: %v, %d", what, at, e)
	}
	for _, at := range []int{0, 1, len(r) - 1, len(r), -1} {
		if end, e := term.End(sig, r, at); end != 0 || e != api.ErrTermForm {
			t.Errorf("P2.2: End, %s at %d: %d, %d", what, at, end, e)
		}
	}
	if vs, e := term.Vars(sig, r); len(vs) != 0 || e != api.ErrTermForm {
		t.Errorf("P2.3: Vars, %s: %v, %d", what, vs, e)
	}
	if w, e := term.Weight(sig, r); w != 0 || e != api.ErrTermForm {
		t.Errorf("P2.3: Weight, %s: %d, %d", what, w, e)
	}
	if d, e := term.Deep(sig, r); d != 0 || e != api.ErrTermForm {
		t.Errorf("P2.3: Deep, %s: %d, %d", what, d, e)
	}
}

func TestWrongCodes(t *testing.T) {
	codes := []int{eq, likes, rains, between, beyond, beyond + 1, 1000, math.MaxInt, x(api.MaxVar + 1), x(api.MaxVar + 2), -1000, math.MinInt, math.MinInt + 1}
	for _, code := range codes {
		for _, r := range [][]int{
			{code},
			{ann, code},
			{code, ann},
			{code, ann, ann},
			{code, ann, ann, ann},
			{f, code},
			{g, x(0), code},
			{g, code, x(0)},
			{h, ann, code, ann},
			row(some(api.MaxTerm-1, x(0)), []int{code}),
			row([]int{code}, some(api.MaxTerm-1, x(0))),
		} {
			refused(t, "code "+strconv.Itoa(code)+" in "+strconv.Itoa(len(r)), symbols(), r)
		}
	}
	refused(t, "an atom", symbols(), []int{likes, ann, x(0)})
	refused(t, "an equation", symbols(), []int{eq, ann, ann})
}

func TestTermsCutShort(t *testing.T) {
	for _, r := range [][]int{
		{f}, {sk1}, {g}, {g, ann}, {h}, {h, ann}, {h, ann, x(0)}, {sk2, x(1)}, {sk3, ann, ann},
		{ann, f}, {x(0), g, x(0)}, {f, f}, {g, f, ann}, {g, ann, f}, {h, f, g, ann, ann, ann},
		some(api.MaxTerm, f), some(api.MaxTerm, h), row(some(23, g), some(23, ann)),
	} {
		refused(t, "cut short in "+strconv.Itoa(len(r)), symbols(), r)
	}
}

func TestLongRows(t *testing.T) {
	over := api.MaxTerm + 1
	refused(t, "one variable too many", symbols(), some(over, x(0)))
	refused(t, "one constant too many", symbols(), some(over, ann))
	refused(t, "one level too many", symbols(), row(some(over-1, f), []int{ann}))
	refused(t, "two terms of one code too many", symbols(), row(some(24, f), []int{ann}, some(23, f), []int{ann}))
	refused(t, "far too long", symbols(), some(1000000, x(0)))
	refused(t, "far too deep", symbols(), row(some(1000000, f), []int{ann}))
}

// wrongSignatures holds signatures that are not valid, most of them in ways that the rows do not touch.
func wrongSignatures() [][]api.Sym {
	twice := append(symbols(), api.Sym{Name: "ann", Kind: api.KindFun, Weight: 1})
	heavy := append(symbols(), api.Sym{Name: "heavy", Kind: api.KindFun, Weight: api.MaxWeight + 1})
	wide := append(symbols(), api.Sym{Name: "wide", Kind: api.KindFun, Arity: api.MaxArity + 1, Weight: 1})
	odd := append(symbols(), api.Sym{Name: "odd", Kind: 3, Weight: 1})
	nameless := append(symbols(), api.Sym{Kind: api.KindFun, Weight: 1})
	first := symbols()
	first[0].Weight = 2
	many := symbols()
	for len(many) <= api.MaxSyms {
		many = append(many, api.Sym{Name: "s" + strconv.Itoa(len(many)), Kind: api.KindFun, Weight: 1})
	}
	below := symbols()
	below[f].Arity = -1
	huge := symbols()
	huge[f].Arity = math.MaxInt
	return [][]api.Sym{nil, {}, twice, heavy, wide, odd, nameless, first, many, below, huge, symbols()[1:]}
}

func TestWrongSignatures(t *testing.T) {
	for i, sig := range wrongSignatures() {
		for _, r := range [][]int{nil, {x(0)}, {ann}, {f, ann}, {likes}, {f}, {beyond}, some(api.MaxTerm+1, x(0))} {
			refused(t, "signature "+strconv.Itoa(i)+", row "+strconv.Itoa(len(r)), sig, r)
		}
	}
}

// A signature may be as short or as long as it likes within its bounds: codes count up to its own length.
func TestSignatureBounds(t *testing.T) {
	short := symbols()[:1]
	n, got := tell(t, short, []int{x(2), x(1)})
	compare(t, "equality alone", n, got, facts{[]int{0, 1}, []int{1, 2}, []int{1, 2}, 2, 1})
	refused(t, "code 1 of equality alone", short, []int{1})
	full := symbols()
	for len(full) < api.MaxSyms {
		full = append(full, api.Sym{Name: "s" + strconv.Itoa(len(full)), Kind: api.KindFun, Arity: 1, Weight: 4})
	}
	n, got = tell(t, full, []int{api.MaxSyms - 1, ann})
	compare(t, "last code", n, got, facts{[]int{0}, []int{2, 2}, nil, 6, 2})
	refused(t, "code MaxSyms", full, []int{api.MaxSyms, ann})
	refused(t, "a code of the spare capacity", symbols()[:f], []int{f, ann})
}

func TestEndIndexes(t *testing.T) {
	for _, r := range [][]int{nil, {}, {ann}, {g, ann, x(0)}, some(api.MaxTerm, x(0)), some(api.MaxTerm+2, x(0))[:api.MaxTerm-1]} {
		for _, at := range []int{-1, -2, -api.MaxTerm, len(r), len(r) + 1, api.MaxTerm, api.MaxTerm + 1, math.MinInt, math.MaxInt} {
			if end, e := term.End(symbols(), r, at); end != 0 || e != api.ErrTermForm {
				t.Errorf("P2.2: %d codes, at %d: %d, %d", len(r), at, end, e)
			}
		}
	}
}
