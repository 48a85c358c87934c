package world_test

import (
	"testing"

	"quaere/api"
	"quaere/world"
)

// The codes of symbols().
const (
	eq = iota
	tall
	ann
	f
	likes
)

func symbols() []api.Sym {
	return []api.Sym{
		eq:    {Name: "=", Kind: api.KindPred, Arity: 2, Weight: 1},
		tall:  {Name: "tall", Kind: api.KindPred, Arity: 1, Weight: 1},
		ann:   {Name: "ann", Kind: api.KindFun, Arity: 0, Weight: 1},
		f:     {Name: "f", Kind: api.KindSkolem, Arity: 1, Weight: 1},
		likes: {Name: "likes", Kind: api.KindPred, Arity: 2, Weight: 1},
	}
}

// count tells in how many of all structures of two elements a clause holds.
func count(c api.Clause) (holds, all int) {
	for w := range world.All(symbols(), 2, 1) {
		all++
		if w.Holds(c) {
			holds++
		}
	}
	return holds, all
}

func is(atom ...int) api.Lit {
	return api.Lit{Atom: atom}
}

func not(atom ...int) api.Lit {
	return api.Lit{Neg: true, Atom: atom}
}

func lits(ls ...api.Lit) api.Clause {
	return api.Clause{Lits: ls}
}

// There are 4 for tall, 2 for ann, 4 for f, 16 for likes, 4 for what is asked for.
const structures = 4 * 2 * 4 * 16 * 4

func TestHolds(t *testing.T) {
	for _, k := range []struct {
		what string
		c    api.Clause
		want int
	}{
		{"nothing", api.Clause{}, 0},
		{"an atom", lits(is(tall, ann)), structures / 2},
		{"its opposite", lits(not(tall, ann)), structures / 2},
		{"an atom for all values", lits(is(tall, -1)), structures / 4},
		{"all values of two variables", lits(is(likes, -1, -8)), structures / 16},
		{"one variable twice", lits(is(likes, -24, -24)), structures / 4},
		{"two Lits", lits(is(tall, ann), is(likes, ann, ann)), structures * 3 / 4},
		{"a variable in two Lits", lits(is(tall, -1), not(tall, -1)), structures},
		{"variables apart", lits(is(tall, -1), not(tall, -2)), structures / 2},
		{"a function", lits(not(eq, f, -1, -1)), structures / 4},
		{"a function of a function", lits(is(eq, f, f, -1, -1)), structures / 2},
		{"equals", lits(is(eq, ann, ann)), structures},
		{"all are one", lits(is(eq, -1, -2)), 0},
		{"the order of arguments", lits(not(likes, -1, -2), is(likes, -2, -1)), structures / 2},
		{"a Tuple", api.Clause{Tuples: [][]int{{f, ann}}}, structures / 2},
		{"a Tuple for all values", api.Clause{Tuples: [][]int{{-1}}}, structures / 4},
		{"a Lit or a Tuple", api.Clause{Lits: []api.Lit{is(tall, ann)}, Tuples: [][]int{{ann}}}, structures * 3 / 4},
		{"a Cond that holds", api.Clause{Lits: []api.Lit{is(tall, ann)}, Conds: []api.Lit{is(eq, ann, ann)}}, structures / 2},
		{"a Cond that does not hold", api.Clause{Conds: []api.Lit{not(eq, ann, ann)}}, structures},
		{"a Cond", api.Clause{Conds: []api.Lit{is(tall, ann), not(likes, ann, ann)}}, structures * 3 / 4},
	} {
		if got, all := count(k.c); got != k.want || all != structures {
			t.Errorf("%s: %v holds in %d of %d; want %d of %d", k.what, k.c, got, all, k.want, structures)
		}
	}
}

func TestWidths(t *testing.T) {
	for _, k := range []struct {
		size, width int
		tuple       []int
		holds, all  int
	}{
		{1, 0, nil, 4, 8},
		{1, 2, []int{-1, ann}, 4, 8},
		{2, 0, nil, 4 * 2 * 4 * 16, 4 * 2 * 4 * 16 * 2},
		{2, 2, []int{-1, ann}, 4 * 2 * 4 * 16 * 4, 4 * 2 * 4 * 16 * 16},
	} {
		holds, all := 0, 0
		for w := range world.All(symbols(), k.size, k.width) {
			all++
			if w.Holds(api.Clause{Tuples: [][]int{k.tuple}}) {
				holds++
			}
		}
		if holds != k.holds || all != k.all {
			t.Errorf("size %d, width %d: %d of %d; want %d of %d", k.size, k.width, holds, all, k.holds, k.all)
		}
	}
}

func TestMake(t *testing.T) {
	var of []int
	w := world.Make(symbols(), 3, 1, func(n int) int {
		of = append(of, n)
		return n - 1
	})
	kinds := map[int]int{}
	for _, n := range of {
		kinds[n]++
	}
	if kinds[2] != 3+9+3 || kinds[3] != 1+3 || len(kinds) != 2 {
		t.Errorf("choices: %v", of)
	}
	if !w.Holds(lits(is(eq, f, -1, ann))) || !w.Holds(lits(is(tall, -1))) || w.Holds(lits(is(eq, -1, -2))) {
		t.Error("not what was chosen")
	}
}
