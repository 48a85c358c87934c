package bind_test

import (
	"math"
	"slices"
	"sync"
	"testing"

	"quaere/api"
	"quaere/bind"
)

// tree is a term with the terms that it holds.
type tree struct {
	code int
	args []tree
}

// grow reads the term that r begins with, and what is behind it; r is known to be a row.
func grow(r []int) (tree, []int) {
	out := tree{code: r[0]}
	rest := r[1:]
	if out.code >= 0 {
		for range symbols()[out.code].Arity {
			var arg tree
			arg, rest = grow(rest)
			out.args = append(out.args, arg)
		}
	}
	return out, rest
}

// put replaces variables from the leaves up, by the words of the chapter: what it has put in is not looked at again.
func (n tree) put(s []api.Bind) tree {
	for _, b := range s {
		if n.code == x(b.Var) {
			out, _ := grow(b.Term)
			return out
		}
	}
	out := tree{code: n.code}
	for _, arg := range n.args {
		out.args = append(out.args, arg.put(s))
	}
	return out
}

func (n tree) codes() []int {
	out := []int{n.code}
	for _, arg := range n.args {
		out = append(out, arg.codes()...)
	}
	return out
}

// expectApply is what r becomes, however long.
func expectApply(s []api.Bind, r []int) []int {
	var out []int
	for len(r) > 0 {
		var n tree
		n, r = grow(r)
		out = append(out, n.put(s).codes()...)
	}
	return out
}

func lookApply(t *testing.T, s []api.Bind, r []int) bool {
	t.Helper()
	want := expectApply(s, r)
	if len(want) > api.MaxTerm {
		applied(t, "too long", s, r, nil, api.ErrBindLong)
		return false
	}
	applied(t, "by trees", s, r, want, api.OK)
	return true
}

// expectThen goes by the words of the chapter: the binds of s first, then those of u only.
func expectThen(s, u []api.Bind) ([]api.Bind, bool) {
	var out []api.Bind
	in := map[int]int{}
	for _, b := range s {
		in[b.Var] = 1
		r := expectApply(u, b.Term)
		if len(r) > api.MaxTerm {
			return nil, false
		}
		if !slices.Equal(r, []int{x(b.Var)}) {
			out = append(out, api.Bind{Var: b.Var, Term: r})
		}
	}
	for _, b := range u {
		if in[b.Var] == 0 {
			out = append(out, b)
		}
	}
	slices.SortFunc(out, func(a, b api.Bind) int { return a.Var - b.Var })
	return out, true
}

func lookThen(t *testing.T, s, u []api.Bind) bool {
	t.Helper()
	want, ok := expectThen(s, u)
	if !ok {
		followed(t, "too long", s, u, nil, api.ErrBindLong)
		return false
	}
	followed(t, "by trees", s, u, want, api.OK)
	got, _ := bind.Then(symbols(), s, u)
	if !bind.May(symbols(), got) {
		t.Errorf("P3.3: Then(%v, %v) is not valid: %v", s, u, got)
	}
	for v := range api.MaxVar + 1 {
		once, _ := bind.Apply(symbols(), got, []int{x(v)})
		first, _ := bind.Apply(symbols(), s, []int{x(v)})
		twice, _ := bind.Apply(symbols(), u, first)
		if !slices.Equal(once, twice) {
			t.Errorf("P3.3: Then(%v, %v) does not have the effect of both on variable %d: %v, want %v", s, u, v, once, twice)
		}
	}
	return true
}

// fewBinds are all substitutions of the variables 0 and 1 by terms from a short list.
func fewBinds() [][]api.Bind {
	terms := [][]int{nil, {x(0)}, {x(1)}, {x(2)}, {ann}, {f, x(0)}, {f, x(1)}, {g, x(0), x(1)}, {g, x(1), x(2)}}
	var out [][]api.Bind
	for _, a := range terms {
		for _, b := range terms {
			var s []api.Bind
			if a != nil && a[0] != x(0) {
				s = append(s, to(0, a...))
			}
			if b != nil && b[0] != x(1) {
				s = append(s, to(1, b...))
			}
			out = append(out, s)
		}
	}
	return out
}

func TestAllSmallSubstitutions(t *testing.T) {
	rows := [][]int{nil, {x(0)}, {x(1)}, {x(2)}, {g, x(0), x(1)}, {x(1), f, x(0), x(1), ann}}
	for _, s := range fewBinds() {
		for _, r := range rows {
			lookApply(t, s, r)
		}
		for _, u := range fewBinds() {
			lookThen(t, s, u)
		}
		if t.Failed() {
			t.FailNow()
		}
	}
}

// chance is a row of numbers by a fixed rule.
type chance uint32

func (c *chance) below(n int) int {
	*c = *c*1664525 + 1013904223
	return int(*c>>8) % n
}

// term makes a term of at most so many levels.
func (c *chance) term(levels int) []int {
	if levels == 1 || c.below(4) == 0 {
		return []int{x(c.below(api.MaxVar + 1))}
	}
	code := ann + c.below(sk2-ann+1)
	out := []int{code}
	for range symbols()[code].Arity {
		out = append(out, c.term(levels-1)...)
	}
	return out
}

// binds makes a valid substitution; one in so many variables has a bind.
func (c *chance) binds(seldom, levels int) []api.Bind {
	var out []api.Bind
	for v := range api.MaxVar + 1 {
		r := c.term(levels)
		if c.below(seldom) == 0 && len(r) <= api.MaxTerm && r[0] != x(v) {
			out = append(out, to(v, r...))
		}
	}
	return out
}

func (c *chance) row() []int {
	for {
		var r []int
		for range 1 + c.below(8) {
			r = append(r, c.term(1+c.below(5))...)
		}
		if len(r) <= api.MaxTerm {
			return r
		}
	}
}

func TestManySubstitutions(t *testing.T) {
	c := chance(3)
	rows, longRows, pairs, longPairs := 0, 0, 0, 0
	for range 1500 {
		s := c.binds(1+c.below(6), 1+c.below(6))
		u := c.binds(1+c.below(6), 1+c.below(6))
		r := c.row()
		if !bind.May(symbols(), s) {
			t.Fatalf("P3.1: %v is refused", s)
		}
		if lookApply(t, s, r) {
			rows++
		} else {
			longRows++
		}
		if lookThen(t, s, u) {
			pairs++
		} else {
			longPairs++
		}
		if t.Failed() {
			t.FailNow()
		}
	}
	if min(rows, longRows, pairs, longPairs) < 50 {
		t.Errorf("too few of a kind: %d rows, %d too long, %d pairs, %d too long", rows, longRows, pairs, longPairs)
	}
}

// A shift up has the effect of a substitution that renames every variable, and a shift down takes it back.
func TestShiftRenames(t *testing.T) {
	c := chance(5)
	done := 0
	for range 3000 {
		r, by := c.row(), c.below(6)
		var s []api.Bind
		for v := 0; by > 0 && v+by <= api.MaxVar; v++ {
			s = append(s, to(v, x(v+by)))
		}
		got, e := bind.Shift(symbols(), r, by)
		if e != api.OK {
			continue
		}
		done++
		if want := expectApply(s, r); !slices.Equal(got, want) {
			t.Fatalf("P3.4: Shift(%v, %d) = %v, want %v", r, by, got, want)
		}
		shifted(t, "back", got, -by, r, api.OK)
	}
	if done < 1000 {
		t.Errorf("only %d shifts", done)
	}
}

// No call may panic, whatever the numbers: wrong symbols, binds and codes together.
func TestWildArguments(t *testing.T) {
	c := chance(9)
	wild := []int{math.MinInt, math.MinInt + 1, -25, -24, -1, 0, 1, 2, 3, 5, 8, 23, 24, 48, math.MaxInt - 1, math.MaxInt}
	pick := func() int { return wild[c.below(len(wild))] }
	codes := func() []int {
		var r []int
		for range c.below(4) {
			r = append(r, pick())
		}
		return r
	}
	list := func() []api.Bind {
		var s []api.Bind
		for range c.below(3) {
			s = append(s, api.Bind{Var: pick(), Term: codes()})
		}
		return s
	}
	for range 20000 {
		sig := symbols()
		if c.below(2) == 0 {
			sig[c.below(len(sig))] = api.Sym{Name: "w", Kind: pick(), Arity: pick(), Weight: pick()}
		}
		s, u, r, by := list(), list(), codes(), pick()
		bind.May(sig, s)
		row, e := bind.Apply(sig, s, r)
		both, e2 := bind.Then(sig, s, u)
		moved, e3 := bind.Shift(sig, r, by)
		if (e != api.OK && row != nil) || (e2 != api.OK && both != nil) || (e3 != api.OK && moved != nil) {
			t.Fatalf("R2: %v %v %v %d", s, u, r, by)
		}
	}
}

// scribble overwrites a list with its spare capacity: what shares its memory changes.
func scribble(r []int) {
	r = r[:cap(r)]
	for i := range r {
		r[i] = -777
	}
}

func scribbleBinds(s []api.Bind) {
	for _, b := range s {
		scribble(b.Term)
	}
	clear(s[:cap(s)])
}

// spare is a copy of r with other codes in its spare capacity, and all of its memory.
func spare(r []int) ([]int, []int) {
	all := row(r, some(5, -99, 99))
	return all[:len(r)], all
}

// spareBinds does for binds and their Terms what spare does for codes.
func spareBinds(s []api.Bind) ([]api.Bind, []api.Bind, [][]int) {
	var out []api.Bind
	var rows [][]int
	for _, b := range s {
		r, all := spare(b.Term)
		out = append(out, api.Bind{Var: b.Var, Term: r})
		rows = append(rows, all)
	}
	out = append(out, to(-7, -7), to(-8, -8))
	return out[:len(s)], out, rows
}

func callAll(sig []api.Sym, s, u []api.Bind, r []int) {
	bind.May(sig, s)
	bind.May(sig, u)
	for by := -2; by <= 2; by++ {
		moved, _ := bind.Shift(sig, r, by)
		scribble(moved)
	}
	for _, b := range [][]api.Bind{s, u} {
		put, _ := bind.Apply(sig, b, r)
		scribble(put)
	}
	for _, p := range [][2][]api.Bind{{s, u}, {u, s}, {s, s}, {s, nil}, {nil, s}} {
		both, _ := bind.Then(sig, p[0], p[1])
		scribbleBinds(both)
	}
}

func TestArgumentsUnchanged(t *testing.T) {
	var lists [][]api.Bind
	for _, c := range slices.Concat(validCases(), wrongCases()) {
		lists = append(lists, c.s)
	}
	lists = append(lists, binds(to(0, x(1)), to(1, g, x(0), x(23)), to(23, ann)))
	rows := [][]int{nil, {x(1)}, {ann}, {h, x(1), f, x(0), x(23)}, some(api.MaxTerm, x(1)), {f}}
	for i, list := range lists {
		for _, codes := range rows {
			s, sAll, sRows := spareBinds(list)
			u, uAll, uRows := spareBinds(lists[(i+1)%len(lists)])
			r, rAll := spare(codes)
			sig := append(symbols(), api.Sym{Name: "tail", Kind: -7, Arity: -7, Weight: -7})
			sBefore, uBefore := copyOf(sAll), copyOf(uAll)
			kept := copyRows(slices.Concat(sRows, uRows, [][]int{rAll}))
			sigBefore := slices.Clone(sig)
			callAll(sig[:beyond], s, u, r)
			callAll(sig, s, u, r)
			now := slices.Concat(sRows, uRows, [][]int{rAll})
			if !sameBinds(sAll, sBefore) || !sameBinds(uAll, uBefore) || !slices.EqualFunc(now, kept, slices.Equal) || !slices.Equal(sig, sigBefore) {
				t.Fatalf("R4: arguments were changed: %v, %v, %v", sAll, uAll, rAll)
			}
		}
	}
}

func copyOf(s []api.Bind) []api.Bind {
	var out []api.Bind
	for _, b := range s {
		out = append(out, to(b.Var, slices.Clone(b.Term)...))
	}
	return out
}

func copyRows(rows [][]int) [][]int {
	var out [][]int
	for _, r := range rows {
		out = append(out, slices.Clone(r))
	}
	return out
}

// The arguments are overwritten after the calls: results that kept a piece of them would change.
func TestResultsApart(t *testing.T) {
	for _, n := range []int{1, api.MaxTerm} {
		s := binds(to(0, x(2)), to(1, x(2)), to(5, one(n, 6)...))
		u := binds(to(2, one(n, 3)...), to(7, one(n, 8)...))
		r := []int{x(0)}
		kept := slices.Clone(r)
		got, _ := bind.Apply(symbols(), u, []int{x(2)})
		same, _ := bind.Apply(symbols(), nil, r)
		moved, _ := bind.Shift(symbols(), r, 0)
		both, _ := bind.Then(symbols(), s, u)
		left, _ := bind.Then(symbols(), s, nil)
		want, wantBoth, wantLeft := one(n, 3), copyOf(both), copyOf(s)
		scribbleBinds(s)
		scribbleBinds(u)
		scribble(r)
		if !slices.Equal(got, want) || !slices.Equal(same, kept) || !slices.Equal(moved, kept) || !sameBinds(both, wantBoth) || !sameBinds(left, wantLeft) {
			t.Errorf("R4: results share memory with arguments: %v, %v, %v, %v, %v", got, same, moved, both, left)
		}
	}
}

// Each Term of a result is overwritten in turn: the others must not notice.
func TestTermsApart(t *testing.T) {
	s := binds(to(0, x(2)), to(1, x(2)), to(4, ann), to(5, ann))
	u := binds(to(2, f, ann), to(7, f, ann))
	for i := range 6 {
		got, e := bind.Then(symbols(), s, u)
		want := binds(to(0, f, ann), to(1, f, ann), to(2, f, ann), to(4, ann), to(5, ann), to(7, f, ann))
		if e != api.OK || !sameBinds(got, want) {
			t.Fatalf("P3.3: %v, %d", got, e)
		}
		scribble(got[i].Term)
		for k := range got {
			if k != i && !slices.Equal(got[k].Term, want[k].Term) {
				t.Errorf("R4: Terms %d and %d share memory", i, k)
			}
		}
		again, _ := bind.Then(symbols(), s, u)
		if !sameBinds(again, want) {
			t.Errorf("R4, R5: a result shares memory with an earlier one: %v", again)
		}
	}
}

func TestSpareCapacityUnread(t *testing.T) {
	all := []int{g, ann, x(0), x(5)}
	if bind.May(symbols(), binds(to(1, all[:2]...))) || !bind.May(symbols(), binds(to(1, all[:3]...))) {
		t.Error("P3.1: codes behind a Term are read")
	}
	applied(t, "codes behind", nil, all[:3], []int{g, ann, x(0)}, api.OK)
	shifted(t, "codes behind", all[:2], 1, nil, api.ErrBindForm)
}

// Run with -race, this also tells of calls that write what others read.
func TestCallsAtOnce(t *testing.T) {
	sig, s, u := symbols(), binds(to(0, f, x(1))), binds(to(1, ann), to(23, x(0)))
	r := []int{h, x(0), x(1), x(22)}
	var all sync.WaitGroup
	for range 8 {
		all.Add(1)
		go func() {
			defer all.Done()
			for range 100 {
				callAll(sig, s, u, r)
				followed(t, "R5: at once", s, u, binds(to(0, f, ann), to(1, ann), to(23, x(0))), api.OK)
				applied(t, "R5: at once", s, r, []int{h, f, x(1), x(1), x(22)}, api.OK)
				shifted(t, "R5: at once", r, 1, []int{h, x(1), x(2), x(23)}, api.OK)
			}
		}()
	}
	all.Wait()
}
