package shape_test

import (
	"math"
	"slices"
	"testing"

	"quaere/api"
	"quaere/shape"
)

// The codes of symbols().
const (
	eq = iota
	rains
	ann
	f
	g
	between
	beyond // no symbol has this code
)

func symbols() []api.Sym {
	return []api.Sym{
		eq:      {Name: "=", Kind: api.KindPred, Arity: 2, Weight: 1},
		rains:   {Name: "rains", Kind: api.KindPred, Arity: 0, Weight: 1},
		ann:     {Name: "ann", Kind: api.KindFun, Arity: 0, Weight: 2},
		f:       {Name: "f", Kind: api.KindSkolem, Arity: 1, Weight: 3},
		g:       {Name: "g", Kind: api.KindFun, Arity: 2, Weight: 5},
		between: {Name: "between", Kind: api.KindPred, Arity: 3, Weight: 1},
	}
}

// one is a term of n codes.
func one(n int) []int {
	return slices.Concat(slices.Repeat([]int{f}, n-1), []int{ann})
}

func looksLike(t *testing.T, sig []api.Sym, r []int, row, term, atom bool) {
	t.Helper()
	if got := shape.IsRow(sig, r); got != row {
		t.Errorf("IsRow(%v) = %t", r, got)
	}
	if got := shape.IsTerm(sig, r); got != term {
		t.Errorf("IsTerm(%v) = %t", r, got)
	}
	if got := shape.IsAtom(sig, r); got != atom {
		t.Errorf("IsAtom(%v) = %t", r, got)
	}
}

func TestRows(t *testing.T) {
	for _, r := range [][]int{nil, {}, {ann, ann}, {-1, f, -24}, {g, -1, f, ann, -3}, slices.Repeat([]int{-1}, api.MaxTerm)} {
		looksLike(t, symbols(), r, true, false, false)
	}
	for _, r := range [][]int{{-1}, {-24}, {ann}, {f, -5}, {g, f, ann, -1}, one(api.MaxTerm)} {
		looksLike(t, symbols(), r, true, true, false)
	}
}

func TestAtoms(t *testing.T) {
	most := append([]int{eq, ann}, one(api.MaxTerm-1)...)
	for _, r := range [][]int{{rains}, {eq, ann, -1}, {eq, f, ann, g, -1, -1}, {between, -1, -2, -3}, most} {
		looksLike(t, symbols(), r, false, false, true)
	}
}

func TestNeither(t *testing.T) {
	long := append([]int{eq, ann}, one(api.MaxTerm)...)
	for _, r := range [][]int{
		{f}, {g, ann}, {-25}, {beyond}, {math.MinInt}, {math.MaxInt}, {ann, rains}, {f, rains},
		{rains, ann}, {eq}, {eq, ann}, {eq, ann, ann, ann}, {eq, ann, rains}, {eq, ann, f}, {eq, ann, beyond},
		{between, ann, ann}, {rains, rains}, long, one(api.MaxTerm + 1), slices.Repeat([]int{rains}, 1000000),
	} {
		looksLike(t, symbols(), r, false, false, false)
	}
}

func TestWrongSignatures(t *testing.T) {
	twice := append(symbols(), symbols()[ann])
	wide := append(symbols(), api.Sym{Name: "z", Arity: api.MaxArity + 1, Weight: 1})
	for _, sig := range [][]api.Sym{nil, twice, wide, symbols()[1:], slices.Repeat(symbols(), 4)} {
		for _, r := range [][]int{nil, {-1}, {ann}, {rains}, {eq, -1, -1}, {beyond, -1, -1, -1, -1}, {ann, ann}} {
			looksLike(t, sig, r, false, false, false)
		}
	}
}

func TestFirstTerm(t *testing.T) {
	for _, c := range []struct {
		first, rest []int
	}{
		{[]int{-1}, nil},
		{[]int{-24}, []int{-1}},
		{[]int{ann}, []int{f, ann}},
		{[]int{f, ann}, []int{ann}},
		{[]int{g, ann, -1}, []int{-1, g, ann, ann}},
		{[]int{g, f, ann, g, -1, -2}, []int{ann}},
		{one(api.MaxTerm), nil},
		{one(api.MaxTerm - 1), []int{ann}},
	} {
		if got := shape.FirstTerm(symbols(), slices.Concat(c.first, c.rest)); got != len(c.first) {
			t.Errorf("FirstTerm(%v and %v) = %d", c.first, c.rest, got)
		}
	}
}

func TestSameLit(t *testing.T) {
	codes := []int{eq, ann, f, ann}
	l := api.Lit{Atom: codes}
	for _, c := range []struct {
		m    api.Lit
		want bool
	}{
		{l, true},
		{api.Lit{Atom: slices.Clone(codes)}, true},
		{api.Lit{Neg: true, Atom: codes}, false},
		{api.Lit{Atom: codes[:3]}, false},
		{api.Lit{Atom: []int{eq, f, ann, ann}}, false},
		{api.Lit{}, false},
	} {
		if shape.SameLit(l, c.m) != c.want || shape.SameLit(c.m, l) != c.want {
			t.Errorf("SameLit(%v, %v) is not %t", l, c.m, c.want)
		}
		if shape.HasLit([]api.Lit{{Atom: []int{rains}}, c.m}, l) != c.want || shape.HasLit([]api.Lit{c.m, {Atom: []int{rains}}}, l) != c.want {
			t.Errorf("HasLit(%v and another one, %v) is not %t", c.m, l, c.want)
		}
	}
	if shape.HasLit(nil, l) || !shape.SameLit(api.Lit{Neg: true}, api.Lit{Neg: true, Atom: []int{}}) {
		t.Error("no literal, no codes")
	}
}

func TestParts(t *testing.T) {
	a, b, r, s, c, d := []int{rains}, []int{eq, ann, -1}, []int{-3, -4}, []int{}, []int{eq, -1, -1}, []int{between, -1, -2, -3}
	clause := api.Clause{Lits: []api.Lit{{Neg: true, Atom: a}, {Atom: b}}, Tuples: [][]int{r, s}, Conds: []api.Lit{{Atom: c}, {Neg: true, Atom: d}}}
	want := [][]int{a, b, r, s, c, d}
	if got := shape.Parts(clause); !slices.EqualFunc(got, want, func(x, y []int) bool { return slices.Equal(x, y) }) {
		t.Errorf("Parts(%v) = %v", clause, got)
	}
	if got := shape.Parts(api.Clause{}); len(got) > 0 {
		t.Errorf("Parts of nothing = %v", got)
	}
}
