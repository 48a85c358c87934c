package unify_test

import (
	"math"
	"slices"
	"strconv"
	"sync"
	"testing"

	"quaere/api"
	"quaere/bind"
	"quaere/unify"
)

// tree is a term with the terms that it holds.
type tree struct {
	code int
	args []tree
}

// grow reads the term that r begins with, and what is behind it; r is known to be a row.
func grow(r []int) (tree, []int) {
	out := tree{code: r[0]}
	rest := r[1:]
	if out.code >= 0 {
		for range symbols()[out.code].Arity {
			var arg tree
			arg, rest = grow(rest)
			out.args = append(out.args, arg)
		}
	}
	return out, rest
}

func trees(r []int) []tree {
	var out []tree
	for len(r) > 0 {
		var n tree
		n, r = grow(r)
		out = append(out, n)
	}
	return out
}

// known is what variables are replaced by, one replacement after the other.
type known map[int]tree

// now is n, or what has come for it if it is a variable.
func (k known) now(n tree) tree {
	for n.code < 0 {
		next, is := k[n.code]
		if !is {
			break
		}
		n = next
	}
	return n
}

func (k known) holds(n tree, code int) bool {
	n = k.now(n)
	return n.code == code || slices.ContainsFunc(n.args, func(arg tree) bool { return k.holds(arg, code) })
}

// same makes two terms equal by plain recursion, and answers false if that can not be.
func (k known) same(m, n tree) bool {
	m, n = k.now(m), k.now(n)
	if m.code < n.code {
		m, n = n, m
	}
	switch {
	case m.code == n.code:
		return slices.EqualFunc(m.args, n.args, k.same)
	case n.code >= 0 || m.code >= 0 && k.holds(m, n.code):
		return false
	}
	k[n.code] = m
	return true
}

func (k known) codes(n tree) []int {
	n = k.now(n)
	out := []int{n.code}
	for _, arg := range n.args {
		out = append(out, k.codes(arg)...)
	}
	return out
}

// expect is what Unify is to answer for two rows.
func expect(a, b []int) ([]api.Bind, bool, api.Errno) {
	k := known{}
	if !slices.EqualFunc(trees(a), trees(b), k.same) {
		return nil, false, api.OK
	}
	var out []api.Bind
	for v := range api.MaxVar + 1 {
		r := k.codes(tree{code: x(v)})
		if len(r) > api.MaxTerm {
			return nil, false, api.ErrUnifyLong
		}
		if r[0] != x(v) {
			out = append(out, to(v, r...))
		}
	}
	return out, true, api.OK
}

func look(t *testing.T, a, b []int) api.Errno {
	t.Helper()
	want, ok, e := expect(a, b)
	answers(t, "by trees", a, b, want, ok, e)
	if t.Failed() {
		t.FailNow()
	}
	return e
}

// chance is a row of numbers by a fixed rule.
type chance uint32

func (c *chance) below(n int) int {
	*c = *c*1664525 + 1013904223
	return int(*c>>8) % n
}

// term makes a term of at most so many levels, of so many variables.
func (c *chance) term(levels, vars int) []int {
	if levels == 1 || c.below(3) == 0 {
		if c.below(6) == 0 {
			return []int{ann}
		}
		return []int{x(c.below(vars))}
	}
	code := f + c.below(h-f+1)
	out := []int{code}
	for range symbols()[code].Arity {
		out = append(out, c.term(levels-1, vars)...)
	}
	return out
}

// pair makes two rows with as many terms.
func (c *chance) pair() ([]int, []int) {
	for {
		var s system
		levels, vars := 1+c.below(4), 1+c.below(api.MaxVar+1)
		for range 1 + c.below(10) {
			s.add([]int{x(c.below(vars))}, c.term(levels, vars))
			if c.below(3) == 0 {
				s.add(c.term(levels, vars), c.term(levels, vars))
			}
		}
		if max(len(s.a), len(s.b)) <= api.MaxTerm {
			return s.a, s.b
		}
	}
}

// ordered makes two rows of which each pair replaces a variable by a term of those behind it in some order, so that Terms grow and none holds itself; the last pair may be any.
func (c *chance) ordered() ([]int, []int) {
	var s system
	order := []int{0, 3, 4, 7, 11, 12, 19, 23}
	for i := range order {
		k := i + c.below(len(order)-i)
		order[i], order[k] = order[k], order[i]
	}
	for i := range len(order) - 1 {
		var names []api.Bind
		for v, name := range order[i+1:] {
			names = append(names, to(v, x(name)))
		}
		s.add([]int{x(order[i])}, put(names, c.term(3, len(names))))
	}
	if c.below(2) == 0 {
		s.add(c.term(2, api.MaxVar+1), c.term(2, api.MaxVar+1))
	}
	if max(len(s.a), len(s.b)) > api.MaxTerm {
		return c.ordered()
	}
	return s.a, s.b
}

func TestManyRows(t *testing.T) {
	c := chance(3)
	same, not, long := 0, 0, 0
	for i := range 20000 {
		a, b := c.pair()
		if i%2 == 0 {
			a, b = c.ordered()
		}
		_, ok, e := expect(a, b)
		switch {
		case e != api.OK:
			long++
		case ok:
			same++
		default:
			not++
		}
		look(t, a, b)
	}
	if min(same, not, long) < 1000 {
		t.Errorf("too few of a kind: %d equal, %d not, %d too long", same, not, long)
	}
}

// Rows that have a common instance, known beforehand: they must be made equal, and the instance must come of the result.
func TestInstances(t *testing.T) {
	c := chance(8)
	done := 0
	for range 20000 {
		var s []api.Bind
		for v := range 4 {
			s = append(s, to(v, c.ground(1+c.below(3))...))
		}
		r := c.term(5, 4)
		a, b := c.general(s, r), c.general(s, r)
		if len(a) > api.MaxTerm || len(b) > api.MaxTerm {
			continue
		}
		got, ok, e := unify.Unify(symbols(), a, b)
		if e == api.ErrUnifyLong && look(t, a, b) == e {
			continue
		}
		if e != api.OK || !ok {
			t.Fatalf("P4.1: Unify(%v, %v) = %v, %t, %d, but they are equal by %v", a, b, got, ok, e, s)
		}
		done++
		fits(t, a, b, got)
		after, e := bind.Then(symbols(), got, s)
		if e != api.OK || !sameBinds(after, s) {
			t.Fatalf("P4.2: Unify(%v, %v) = %v followed by %v is %v", a, b, got, s, after)
		}
	}
	if done < 5000 {
		t.Errorf("only %d pairs", done)
	}
}

// ground makes a term without variables.
func (c *chance) ground(levels int) []int {
	return put(binds(to(0, sk)), c.term(levels, 1))
}

// general is a row that becomes the same by s as r does: here and there, a part that is the Term of a bind has its variable instead.
func (c *chance) general(s []api.Bind, r []int) []int {
	var out []int
	for _, n := range trees(put(s, r)) {
		out = append(out, c.generalTerm(s, n)...)
	}
	return out
}

func (c *chance) generalTerm(s []api.Bind, n tree) []int {
	codes := known{}.codes(n)
	for _, b := range s {
		if slices.Equal(b.Term, codes) && c.below(2) == 0 {
			return []int{x(b.Var)}
		}
	}
	out := []int{n.code}
	for _, arg := range n.args {
		out = append(out, c.generalTerm(s, arg)...)
	}
	return out
}

// smallRows are all rows of at most two terms from a short list.
func smallRows() [][]int {
	terms := [][]int{{x(0)}, {x(1)}, {x(2)}, {ann}, {f, x(0)}, {f, x(1)}, {f, x(2)}, {f, ann}, {g, x(0), x(1)}, {g, x(1), x(0)}, {g, x(2), x(2)}, {g, ann, x(2)}}
	out := [][]int{nil}
	for _, a := range terms {
		out = append(out, a)
		for _, b := range terms {
			out = append(out, row(a, b))
		}
	}
	return out
}

// smallBinds are all substitutions of the variables 0 to 2 by terms from a short list.
func smallBinds() [][]api.Bind {
	terms := [][]int{{x(0)}, {x(1)}, {x(2)}, {x(3)}, {ann}, {sk}, {f, ann}, {f, x(1)}, {f, x(3)}, {g, x(0), x(0)}, {g, ann, f, ann}}
	out := [][]api.Bind{nil}
	for v := range 3 {
		var more [][]api.Bind
		for _, s := range out {
			for _, r := range terms {
				if r[0] == x(v) {
					more = append(more, s)
				} else {
					more = append(more, append(slices.Clone(s), to(v, r...)))
				}
			}
		}
		out = more
	}
	return out
}

// P4.2, and that false is answered only if no substitution makes both equal: by trying all small substitutions on all pairs of small rows.
func TestAllSmallRows(t *testing.T) {
	rows, subs := smallRows(), smallBinds()
	names := map[string]int{}
	after := make([][]int, len(rows))
	for i, r := range rows {
		for _, s := range subs {
			text := ""
			for _, code := range put(s, r) {
				text += strconv.Itoa(code) + " "
			}
			if names[text] == 0 {
				names[text] = len(names) + 1
			}
			after[i] = append(after[i], names[text])
		}
	}
	for i, a := range rows {
		for j, b := range rows {
			look(t, a, b)
			got, ok, _ := unify.Unify(symbols(), a, b)
			for k, s := range subs {
				if after[i][k] == after[j][k] {
					follows(t, a, b, s, got, ok, k%40 == 0)
				}
			}
		}
	}
}

// follows looks whether s, which makes a and b equal, is got followed by another one. If there is another one, s itself is one too, as no variable with a bind in got stands in its Terms.
func follows(t *testing.T, a, b []int, s, got []api.Bind, ok, byThen bool) {
	t.Helper()
	if !ok {
		t.Fatalf("P4.1: Unify(%v, %v) is false, but %v makes them equal", a, b, s)
	}
	for _, p := range got {
		if !slices.Equal(put(s, p.Term), put(s, []int{x(p.Var)})) {
			t.Fatalf("P4.2: %v makes %v and %v equal, but it does not follow from %v", s, a, b, got)
		}
	}
	if !byThen {
		return
	}
	if then, e := bind.Then(symbols(), got, s); e != api.OK || !sameBinds(then, s) {
		t.Fatalf("P4.2: %v and %v: %v followed by %v is %v, %d", a, b, got, s, then, e)
	}
}

// No call may panic, whatever the numbers: wrong symbols and codes together.
func TestWildArguments(t *testing.T) {
	c := chance(9)
	wild := []int{math.MinInt, math.MinInt + 1, -25, -24, -2, -1, 0, 1, 2, 3, 4, 5, 8, 9, 24, 48, math.MaxInt - 1, math.MaxInt}
	pick := func() int { return wild[c.below(len(wild))] }
	codes := func() []int {
		var r []int
		for range c.below(4) {
			r = append(r, pick())
		}
		return r
	}
	for range 30000 {
		sig := symbols()
		if c.below(2) == 0 {
			sig[c.below(len(sig))] = api.Sym{Name: "w", Kind: pick(), Arity: pick(), Weight: pick()}
		}
		a, b := codes(), codes()
		got, ok, e := unify.Unify(sig, a, b)
		if (e != api.OK && ok) || (!ok && got != nil) {
			t.Fatalf("R2: %v %v: %v, %t, %d", a, b, got, ok, e)
		}
		if e != api.OK && e != api.ErrUnifyForm {
			t.Fatalf("P4.1: %v %v: %d", a, b, e)
		}
	}
}

// scribble overwrites binds and their Terms with their spare capacity: what shares their memory changes.
func scribble(s []api.Bind) {
	for _, b := range s {
		r := b.Term[:cap(b.Term)]
		for i := range r {
			r[i] = -777
		}
	}
	clear(s[:cap(s)])
}

func somePairs() [][2][]int {
	long := one(40, ann)
	out := [][2][]int{
		{nil, nil},
		{{x(0)}, {ann}},
		{{x(0)}, {x(1)}},
		{{x(2), x(1)}, {x(0), f, x(2)}},
		{{x(0)}, {f, x(0)}},
		{{ann}, {sk}},
		{{x(0), x(1), x(2)}, {f, ann, f, ann, x(1)}},
		{{x(0), x(0), x(1)}, row([]int{x(1)}, long, []int{x(2)})},
		{row(long, []int{x(1)}), {x(0), g, x(0), x(0)}},
		{{f}, {ann}},
		{{ann}, {likes, ann, ann}},
		{some(api.MaxTerm, x(0)), some(api.MaxTerm, x(1))},
		{some(api.MaxTerm+1, x(0)), {ann}},
	}
	c := chance(21)
	for range 200 {
		a, b := c.pair()
		p, q := c.ordered()
		out = append(out, [2][]int{a, b}, [2][]int{p, q})
	}
	return out
}

func TestArgumentsUnchanged(t *testing.T) {
	for _, p := range somePairs() {
		a, b := row(p[0], some(5, -99, 99)), row(p[1], some(5, -99, 99))
		sig := append(symbols(), api.Sym{Name: "tail", Kind: -7, Arity: -7, Weight: -7})
		aBefore, bBefore, sigBefore := slices.Clone(a), slices.Clone(b), slices.Clone(sig)
		for _, n := range []int{beyond, beyond + 1} {
			got, _, _ := unify.Unify(sig[:n], a[:len(p[0])], b[:len(p[1])])
			scribble(got)
			got, _, _ = unify.Unify(sig[:n], a[:len(p[0])], a[:len(p[0])])
			scribble(got)
		}
		if !slices.Equal(a, aBefore) || !slices.Equal(b, bBefore) || !slices.Equal(sig, sigBefore) {
			t.Fatalf("R4: arguments were changed: %v, %v, %v", a, b, sig)
		}
	}
}

func TestSpareCapacityUnread(t *testing.T) {
	all := []int{g, ann, x(0), x(5)}
	refused(t, "codes behind", []int{x(1)}, all[:2])
	unified(t, "codes behind", []int{x(1)}, all[:3], to(1, g, ann, x(0)))
	apart(t, "codes behind", all, all[:3])
}

func copyOf(s []api.Bind) []api.Bind {
	var out []api.Bind
	for _, b := range s {
		out = append(out, to(b.Var, slices.Clone(b.Term)...))
	}
	return out
}

// The arguments and an earlier result are overwritten after the call: a result that kept a piece of them would change.
func TestResultsApart(t *testing.T) {
	for _, p := range somePairs() {
		a, b, sig := slices.Clone(p[0]), slices.Clone(p[1]), symbols()
		got, _, _ := unify.Unify(sig, a, b)
		kept := copyOf(got)
		again, _, _ := unify.Unify(sig, a, b)
		scribble(again)
		for i := range a {
			a[i] = -777
		}
		for i := range b {
			b[i] = -777
		}
		clear(sig)
		if !sameBinds(got, kept) {
			t.Fatalf("R4: %v and %v: the result shares memory: %v", p[0], p[1], got)
		}
	}
}

// Each Term of a result is overwritten in turn: the others must not notice.
func TestTermsApart(t *testing.T) {
	for _, p := range somePairs() {
		want, _, _ := unify.Unify(symbols(), p[0], p[1])
		for i := range want {
			got, _, _ := unify.Unify(symbols(), p[0], p[1])
			scribble(got[i : i+1 : i+1])
			for k := range got {
				if k != i && !slices.Equal(got[k].Term, want[k].Term) {
					t.Fatalf("R4: %v and %v: Terms %d and %d share memory", p[0], p[1], i, k)
				}
			}
		}
	}
}

// Run with -race, this also tells of calls that write what others read.
func TestCallsAtOnce(t *testing.T) {
	sig, pairs := symbols(), somePairs()
	var all sync.WaitGroup
	for range 8 {
		all.Add(1)
		go func() {
			defer all.Done()
			for range 20 {
				for _, p := range pairs[:9] {
					want, wantOk, wantE := expect(p[0], p[1])
					got, ok, e := unify.Unify(sig, p[0], p[1])
					if !sameBinds(got, want) || ok != wantOk || e != wantE {
						t.Errorf("R5: at once: Unify(%v, %v) = %v, %t, %d", p[0], p[1], got, ok, e)
					}
					scribble(got)
				}
			}
		}()
	}
	all.Wait()
}
