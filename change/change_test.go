package change_test

import (
	"slices"
	"testing"

	"quaere/api"
	"quaere/change"
)

// The codes of symbols().
const (
	eq = iota
	ann
	f
	g
)

func symbols() []api.Sym {
	return []api.Sym{
		eq:  {Name: "=", Kind: api.KindPred, Arity: 2, Weight: 1},
		ann: {Name: "ann", Kind: api.KindFun, Arity: 0, Weight: 1},
		f:   {Name: "f", Kind: api.KindFun, Arity: 1, Weight: 1},
		g:   {Name: "g", Kind: api.KindSkolem, Arity: 2, Weight: 1},
	}
}

func same(p, q change.Pieces) bool {
	for v := range p {
		if (p[v] == nil) != (q[v] == nil) || !slices.Equal(p[v], q[v]) {
			return false
		}
	}
	return true
}

func TestFind(t *testing.T) {
	for _, c := range []struct {
		a, b []int
		want change.Pieces
	}{
		{nil, []int{}, change.Pieces{}},
		{[]int{ann}, []int{ann}, change.Pieces{}},
		{[]int{-1}, []int{-1}, change.Pieces{0: {-1}}},
		{[]int{-1, -2}, []int{-2, -1}, change.Pieces{0: {-2}, 1: {-1}}},
		{[]int{-24, f, -1}, []int{g, ann, -1, f, f, ann}, change.Pieces{23: {g, ann, -1}, 0: {f, ann}}},
		{[]int{g, -1, -1}, []int{g, f, -1, f, -1}, change.Pieces{0: {f, -1}}},
	} {
		if got, ok := change.Find(symbols(), c.a, c.b); !ok || !same(got, c.want) {
			t.Errorf("Find(%v, %v) = %v, %t; want %v", c.a, c.b, got, ok, c.want)
		}
	}
}

func TestFindNothing(t *testing.T) {
	for _, c := range [][2][]int{
		{{-1}, nil}, {nil, {ann}}, {{ann}, {-1}}, {{ann}, {f, ann}}, {{f, -1}, {ann}}, {{-1}, {-1, -1}}, {{-1, -2}, {g, ann, ann}},
		{{-1, -1}, {ann, -1}}, {{g, -1, -1}, {g, ann, f, ann}}, {{-1, ann}, {ann, -1}}, {{g, -1, ann}, {g, f, ann, f, ann}},
	} {
		if got, ok := change.Find(symbols(), c[0], c[1]); ok || !same(got, change.Pieces{}) {
			t.Errorf("Find(%v, %v) = %v, %t", c[0], c[1], got, ok)
		}
	}
}

func TestAgrees(t *testing.T) {
	for _, c := range []struct {
		p, q change.Pieces
		want bool
	}{
		{change.Pieces{}, change.Pieces{}, true},
		{change.Pieces{0: {ann}}, change.Pieces{}, true},
		{change.Pieces{0: {ann}}, change.Pieces{1: {f, ann}}, true},
		{change.Pieces{0: {f, ann}, 1: {ann}}, change.Pieces{0: {f, ann}, 2: {-1}}, true},
		{change.Pieces{0: {ann}}, change.Pieces{0: {-1}}, false},
		{change.Pieces{0: {f, ann}}, change.Pieces{0: {f, f, ann}}, false},
		{change.Pieces{0: {ann}, 23: {-1}}, change.Pieces{0: {ann}, 23: {-24}}, false},
	} {
		if c.p.Agrees(&c.q) != c.want || c.q.Agrees(&c.p) != c.want {
			t.Errorf("%v and %v: not %t", c.p, c.q, c.want)
		}
	}
}

func TestApply(t *testing.T) {
	s := []api.Bind{{Var: 0, Term: []int{f, -2}}, {Var: 1, Term: []int{ann}}, {Var: 23, Term: []int{g, -24, -1}}}
	long := func(n int) []int { return append(slices.Repeat([]int{ann}, n), -1) }
	for _, c := range []struct {
		s       []api.Bind
		r, want []int
		ok      bool
	}{
		{nil, nil, nil, true},
		{s, []int{}, nil, true},
		{nil, []int{g, -1, ann}, []int{g, -1, ann}, true},
		{s, []int{g, -1, -2, -3, -24, -1}, []int{g, f, -2, ann, -3, g, -24, -1, f, -2}, true},
		{s, long(api.MaxTerm - 2), append(slices.Repeat([]int{ann}, api.MaxTerm-2), f, -2), true},
		{s, long(api.MaxTerm - 1), nil, false},
		{nil, long(api.MaxTerm - 1), long(api.MaxTerm - 1), true},
		{nil, long(api.MaxTerm), nil, false},
	} {
		before := slices.Clone(c.r)
		got, ok := change.Apply(c.s, c.r)
		if ok != c.ok || !slices.Equal(got, c.want) || !slices.Equal(c.r, before) {
			t.Errorf("Apply(%v, %v) = %v, %t; want %v, %t", c.s, c.r, got, ok, c.want, c.ok)
		}
	}
}
