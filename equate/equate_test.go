package equate_test

import (
	"slices"
	"testing"

	"quaere/api"
	"quaere/equate"
)

// The codes of symbols().
const (
	eq = iota
	ann
	f
	g
	h
)

func symbols() []api.Sym {
	return []api.Sym{
		eq:  {Name: "=", Kind: api.KindPred, Arity: 2, Weight: 1},
		ann: {Name: "ann", Kind: api.KindFun, Arity: 0, Weight: 1},
		f:   {Name: "f", Kind: api.KindFun, Arity: 1, Weight: 1},
		g:   {Name: "g", Kind: api.KindSkolem, Arity: 2, Weight: 1},
		h:   {Name: "h", Kind: api.KindFun, Arity: 3, Weight: 1},
	}
}

// one is a term of n codes.
func one(n int) []int {
	return append(slices.Repeat([]int{f}, n-1), ann)
}

func TestRows(t *testing.T) {
	for _, c := range []struct {
		a, b []int
		want map[int][]int // what becomes of those variables that do not stay
	}{
		{nil, []int{}, nil},
		{[]int{ann}, []int{ann}, nil},
		{[]int{-1}, []int{-1}, nil},
		{[]int{-1}, []int{f, -2}, map[int][]int{0: {f, -2}}},
		{[]int{-1, -2}, []int{-2, -3}, map[int][]int{1: {-1}, 2: {-1}}},
		{[]int{-3, -2}, []int{-1, f, -3}, map[int][]int{1: {f, -1}, 2: {-1}}},
		{[]int{h, -24, -1, -2}, []int{h, ann, f, -2, f, -24}, map[int][]int{0: {f, f, ann}, 1: {f, ann}, 23: {ann}}},
		{[]int{g, -1, -1}, []int{g, g, -2, ann, g, f, ann, -3}, map[int][]int{0: {g, f, ann, ann}, 1: {f, ann}, 2: {ann}}},
		{[]int{-1}, one(api.MaxTerm), map[int][]int{0: one(api.MaxTerm)}},
	} {
		got, ok := equate.Rows(symbols(), c.a, c.b)
		if !ok {
			t.Errorf("Rows(%v, %v) is false", c.a, c.b)
			continue
		}
		for v := range api.MaxVar + 1 {
			want, is := c.want[v]
			if !is {
				want = []int{-1 - v}
			}
			if r, fits := got.Term(v); !fits || !slices.Equal(r, want) {
				t.Errorf("Rows(%v, %v): variable %d becomes %v, %t; want %v", c.a, c.b, v, r, fits, want)
			}
		}
	}
}

func TestLong(t *testing.T) {
	c, ok := equate.Rows(symbols(), append(one(api.MaxTerm-1), -1), append([]int{-2}, f, f, -2))
	if !ok {
		t.Fatal("false")
	}
	if r, fits := c.Term(0); fits || r != nil {
		t.Errorf("a term of MaxTerm + 1 codes: %v, %t", r, fits)
	}
	if r, fits := c.Term(1); !fits || !slices.Equal(r, one(api.MaxTerm-1)) {
		t.Errorf("a term of MaxTerm - 1 codes: %v, %t", r, fits)
	}
}

func TestNothing(t *testing.T) {
	for _, p := range [][2][]int{
		{{-1}, nil}, {{ann}, {f, ann}}, {{f, -1}, {g, -1, -1}}, {{-1, -1}, {ann, f, -2}}, {{-1}, {-1, -1}},
		{{-1}, {f, -1}}, {{-1, -2}, {f, -2, f, -1}}, {{-1, -1}, {-2, g, ann, -2}},
	} {
		for _, q := range [][2][]int{p, {p[1], p[0]}} {
			if _, ok := equate.Rows(symbols(), q[0], q[1]); ok {
				t.Errorf("Rows(%v, %v) is true", q[0], q[1])
			}
		}
	}
}

func TestApart(t *testing.T) {
	var many []int
	for v := range api.MaxVar + 1 {
		many = append(many, -1-v)
	}
	for _, c := range []struct {
		a, b []int
		want bool
	}{
		{nil, nil, true},
		{[]int{-1}, []int{-1}, true},
		{[]int{-1}, []int{f, -1}, true},
		{[]int{-1}, []int{f, f, -1}, true},
		{[]int{-24}, []int{f, -1}, true},
		{[]int{ann, -1}, []int{-1, f, -1}, true},
		{[]int{ann, -1}, []int{-1, -1}, true},
		{[]int{ann, f, -1}, []int{-1, -1}, false},
		{[]int{-1, -1}, []int{-2, f, -2}, false},
		{[]int{-1, f, -1}, []int{-2, -2}, false},
		{[]int{-1, f, -1}, []int{-1, -1}, false},
		{[]int{-1, f, -1}, []int{f, -1, -1}, false},
		{[]int{-1, f, -1}, []int{f, -1, f, -2}, true},
		{[]int{-1}, []int{-1, -1}, false},
		{many, many, true},
		{many, slices.Repeat([]int{-24}, api.MaxVar+1), true},
		{[]int{-1, -1, -24}, []int{ann, -24, -24}, true},
		{[]int{-1, -1, f, -24}, []int{ann, -24, -24}, false},
		{[]int{-1, g, -1, -1}, append(one(api.MaxTerm-1), -1), true},
		{[]int{-1, g, -1, -1, -2, -2}, append(one(api.MaxTerm-6), -1, -1, g, -2, -2), true},
		{[]int{-1, g, -1, -1, -2, -2}, append(one(api.MaxTerm-6), -1, -1, g, -1, -2), false},
	} {
		if equate.Apart(symbols(), c.a, c.b) != c.want || equate.Apart(symbols(), c.b, c.a) != c.want {
			t.Errorf("Apart(%v, %v) is not %t", c.a, c.b, c.want)
		}
	}
}
