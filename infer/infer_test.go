package infer_test

import (
	"slices"
	"testing"

	"quaere/api"
	"quaere/infer"
)

// The codes of symbols().
const (
	eq = iota
	tall
	ann
	f
)

func symbols() []api.Sym {
	return []api.Sym{
		eq:   {Name: "=", Kind: api.KindPred, Arity: 2, Weight: 1},
		tall: {Name: "tall", Kind: api.KindPred, Arity: 1, Weight: 1},
		ann:  {Name: "ann", Kind: api.KindFun, Arity: 0, Weight: 1},
		f:    {Name: "f", Kind: api.KindSkolem, Arity: 1, Weight: 1},
	}
}

// one is a term of n codes that ends with the code last.
func one(n, last int) []int {
	return append(slices.Repeat([]int{f}, n-1), last)
}

// mixed has something of each kind, of so many different variables.
func mixed(u, v, w int) api.Clause {
	return api.Clause{
		Lits:   []api.Lit{{Atom: []int{tall, u}}, {Neg: true, Atom: []int{eq, ann, f, u}}},
		Tuples: [][]int{{v, ann}, {ann, f, v}},
		Conds:  []api.Lit{{Neg: true, Atom: []int{tall, w}}},
	}
}

func sameLit(l, m api.Lit) bool {
	return l.Neg == m.Neg && slices.Equal(l.Atom, m.Atom)
}

func sameRow(r, s []int) bool {
	return slices.Equal(r, s)
}

func same(c, d api.Clause) bool {
	return slices.EqualFunc(c.Lits, d.Lits, sameLit) && slices.EqualFunc(c.Tuples, d.Tuples, sameRow) && slices.EqualFunc(c.Conds, d.Conds, sameLit)
}

func TestApart(t *testing.T) {
	ground := mixed(ann, ann, ann)
	for _, k := range []struct {
		what       string
		c, d, want api.Clause
		ok         bool
	}{
		{"a Lit's variable", mixed(-3, -1, ann), mixed(-1, -2, -3), mixed(-4, -5, -6), true},
		{"a Tuple's variable", mixed(-1, -5, -2), mixed(-1, -2, -3), mixed(-6, -7, -8), true},
		{"a Cond's variable", mixed(ann, ann, -1), mixed(-1, ann, -3), mixed(-2, ann, -4), true},
		{"none in c", ground, mixed(-24, -1, -3), mixed(-24, -1, -3), true},
		{"none in d", mixed(-24, -1, -1), ground, ground, true},
		{"nothing", api.Clause{}, api.Clause{}, api.Clause{}, true},
		{"just MaxVar", mixed(-12, -1, -1), mixed(-12, -1, -3), mixed(-24, -13, -15), true},
		{"one more", mixed(-12, -1, -1), mixed(-1, -13, -3), api.Clause{}, false},
		{"one more in a Cond", mixed(-1, -1, -12), mixed(-1, -1, -13), api.Clause{}, false},
	} {
		if got, ok := infer.Apart(k.c, k.d); ok != k.ok || !same(got, k.want) {
			t.Errorf("%s: Apart(%v, %v) = %v, %t; want %v, %t", k.what, k.c, k.d, got, ok, k.want, k.ok)
		}
	}
}

func TestWithoutAndJoin(t *testing.T) {
	c := mixed(-1, -2, -3)
	for i, want := range [][]api.Lit{{c.Lits[1]}, {c.Lits[0]}} {
		got := infer.Without(c, i)
		if !same(got, api.Clause{Lits: want, Tuples: c.Tuples, Conds: c.Conds}) || !same(c, mixed(-1, -2, -3)) {
			t.Errorf("Without(%v, %d) = %v", c, i, got)
		}
	}
	d := mixed(-4, ann, -5)
	want := api.Clause{
		Lits:   []api.Lit{c.Lits[0], c.Lits[1], d.Lits[0], d.Lits[1]},
		Tuples: [][]int{c.Tuples[0], c.Tuples[1], d.Tuples[0], d.Tuples[1]},
		Conds:  []api.Lit{c.Conds[0], d.Conds[0]},
	}
	if got := infer.Join(c, d); !same(got, want) {
		t.Errorf("Join(%v, %v) = %v", c, d, got)
	}
}

func TestApply(t *testing.T) {
	s := []api.Bind{{Var: 0, Term: []int{f, -6}}, {Var: 5, Term: []int{ann}}}
	for _, k := range []struct {
		what    string
		c, want api.Clause
		ok      bool
	}{
		{"everywhere, at the same time", mixed(-1, -2, -6), mixed2(), true},
		{"without variables", mixed(ann, ann, ann), mixed(ann, ann, ann), true},
		{"equal ones once", api.Clause{Tuples: [][]int{{-6}, {ann}}}, api.Clause{Tuples: [][]int{{ann}}}, true},
		{"a row of just MaxTerm codes", api.Clause{Tuples: [][]int{one(47, -1)}}, api.Clause{Tuples: [][]int{one(48, -1)}}, true},
		{"a row of one more", api.Clause{Tuples: [][]int{one(48, -1)}}, api.Clause{}, false},
		{"an Atom of just MaxTerm codes", api.Clause{Conds: []api.Lit{{Atom: append([]int{tall}, one(47, -1)...)}}}, api.Clause{Conds: []api.Lit{{Atom: append([]int{tall}, one(48, -1)...)}}}, true},
		{"an Atom of one more", api.Clause{Conds: []api.Lit{{Atom: append([]int{tall}, one(48, -1)...)}}}, api.Clause{}, false},
		{"too long before", api.Clause{Lits: []api.Lit{{Atom: append([]int{tall}, one(90, ann)...)}}}, api.Clause{}, false},
		{"too many Conds", api.Clause{Conds: slices.Repeat([]api.Lit{{Atom: []int{tall, -1}}}, api.MaxConds+1)}, api.Clause{}, false},
		{"Tuples of different widths", api.Clause{Tuples: [][]int{{-1}, {-1, -1}}}, api.Clause{}, false},
	} {
		if got, ok := infer.Apply(symbols(), s, k.c); ok != k.ok || !same(got, k.want) {
			t.Errorf("%s: Apply to %v = %v, %t; want %v, %t", k.what, k.c, got, ok, k.want, k.ok)
		}
	}
}

// mixed2 is what the test of Apply makes of mixed(-1, -2, -6).
func mixed2() api.Clause {
	return api.Clause{
		Lits:   []api.Lit{{Atom: []int{tall, f, -1}}, {Neg: true, Atom: []int{eq, ann, f, f, -1}}},
		Tuples: [][]int{{-2, ann}, {ann, f, -2}},
		Conds:  []api.Lit{{Neg: true, Atom: []int{tall, ann}}},
	}
}

func TestTake(t *testing.T) {
	l := api.Lit{Atom: []int{tall, ann}}
	good, trivial := api.Clause{Lits: []api.Lit{l}}, api.Clause{Lits: []api.Lit{l, {Neg: true, Atom: l.Atom}}}
	var steps infer.Steps
	steps.Take(symbols(), api.Step{A: 1}, api.Clause{}, false, api.OK)
	steps.Take(symbols(), api.Step{A: 2}, good, true, api.OK)
	steps.Take(symbols(), api.Step{A: 3}, api.Clause{}, false, api.ErrParaFar)
	steps.Take(symbols(), api.Step{A: 4}, trivial, true, api.OK)
	steps.Take(symbols(), api.Step{A: 5}, api.Clause{}, false, api.ErrResolveLong)
	steps.Take(symbols(), api.Step{Rule: api.RulePara, A: 6, I: 1, Side: 1, B: 2, J: 3, At: 4}, api.Clause{}, true, api.OK)
	if steps.Left != 2 || len(steps.Made) != 2 {
		t.Fatalf("%v", steps)
	}
	if s := steps.Made[0]; s.A != 2 || !same(s.Clause, good) {
		t.Errorf("%v", s)
	}
	if s := steps.Made[1]; s.Rule != api.RulePara || s.A != 6 || s.I != 1 || s.Side != 1 || s.B != 2 || s.J != 3 || s.At != 4 || !same(s.Clause, api.Clause{}) {
		t.Errorf("%v", s)
	}
}
