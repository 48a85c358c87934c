package rank_test

import (
	"slices"
	"testing"

	"quaere/api"
	"quaere/order"
	"quaere/rank"
)

// The codes of symbols().
const (
	eq = iota
	rains
	ann
	bob
	f
	g
)

func symbols() []api.Sym {
	return []api.Sym{
		eq:    {Name: "=", Kind: api.KindPred, Arity: 2, Weight: 1},
		rains: {Name: "rains", Kind: api.KindPred, Arity: 0, Weight: 4},
		ann:   {Name: "ann", Kind: api.KindFun, Arity: 0, Weight: 2},
		bob:   {Name: "bob", Kind: api.KindFun, Arity: 0, Weight: 2},
		f:     {Name: "f", Kind: api.KindSkolem, Arity: 1, Weight: 3},
		g:     {Name: "g", Kind: api.KindFun, Arity: 2, Weight: api.MaxWeight},
	}
}

func TestCompare(t *testing.T) {
	for _, c := range []struct {
		a, b []int
		want int
	}{
		{[]int{-1}, []int{-1}, api.OrderSame},
		{[]int{-1}, []int{-2}, api.OrderNone},
		{[]int{f, -1}, []int{-1}, api.OrderMore},
		{[]int{f, -1}, []int{-2}, api.OrderNone},
		{[]int{ann}, []int{bob}, api.OrderLess},
		{[]int{g, bob, ann}, []int{g, ann, bob}, api.OrderMore},
		{[]int{g, -1, ann}, []int{g, -1, bob}, api.OrderLess},
		{[]int{g, -1, -2}, []int{g, -2, -1}, api.OrderNone},
		{[]int{rains}, []int{rains}, api.OrderSame},
		{[]int{rains}, []int{eq, ann, bob}, api.OrderLess},
		{[]int{rains}, []int{eq, -1, ann}, api.OrderNone},
		{[]int{eq, f, -1, ann}, []int{eq, -1, f, ann}, api.OrderMore},
	} {
		if got := rank.Compare(symbols(), c.a, c.b); got != c.want {
			t.Errorf("Compare(%v, %v) = %d, not %d", c.a, c.b, got, c.want)
		}
		if got, e := order.Compare(symbols(), c.a, c.b); got != c.want || e != api.OK {
			t.Errorf("as order tells it: Compare(%v, %v) = %d, %d", c.a, c.b, got, e)
		}
	}
}

func TestWeight(t *testing.T) {
	long := slices.Concat(slices.Repeat([]int{f}, api.MaxTerm-1), []int{-24})
	for _, c := range []struct {
		a    []int
		want int
	}{
		{nil, 0},
		{[]int{-1}, 1},
		{[]int{-24}, 1},
		{[]int{ann}, 2},
		{[]int{rains}, 4},
		{[]int{eq, -1, -1}, 3},
		{[]int{eq, f, ann, g, -1, -2}, 1 + 5 + api.MaxWeight + 2},
		{long, 3*(api.MaxTerm-1) + 1},
	} {
		if got := rank.Weight(symbols(), c.a); got != c.want {
			t.Errorf("Weight(%v) = %d, not %d", c.a, got, c.want)
		}
	}
}
