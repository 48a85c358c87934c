package match_test

import (
	"math"
	"slices"
	"sync"
	"testing"

	"quaere/api"
	"quaere/bind"
	"quaere/match"
	"quaere/unify"
)

// tree is a term with the terms that it holds.
type tree struct {
	code int
	args []tree
}

// grow reads the term that r begins with, and what is behind it; r is known to be a row.
func grow(r []int) (tree, []int) {
	out := tree{code: r[0]}
	rest := r[1:]
	if out.code >= 0 {
		for range symbols()[out.code].Arity {
			var arg tree
			arg, rest = grow(rest)
			out.args = append(out.args, arg)
		}
	}
	return out, rest
}

func trees(r []int) []tree {
	var out []tree
	for len(r) > 0 {
		var n tree
		n, r = grow(r)
		out = append(out, n)
	}
	return out
}

func (n tree) codes() []int {
	out := []int{n.code}
	for _, arg := range n.args {
		out = append(out, arg.codes()...)
	}
	return out
}

func equal(m, n tree) bool {
	return m.code == n.code && slices.EqualFunc(m.args, n.args, equal)
}

// known is what the variables of the first row become, by their codes.
type known map[int]tree

// becomes tells by plain recursion whether m can become n.
func (k known) becomes(m, n tree) bool {
	if m.code >= 0 {
		return m.code == n.code && slices.EqualFunc(m.args, n.args, k.becomes)
	}
	before, is := k[m.code]
	k[m.code] = n
	return !is || equal(before, n)
}

// expect is what Match is to answer for two rows.
func expect(a, b []int) ([]api.Bind, bool) {
	k := known{}
	if !slices.EqualFunc(trees(a), trees(b), k.becomes) {
		return nil, false
	}
	var out []api.Bind
	for v := range api.MaxVar + 1 {
		if n, is := k[x(v)]; is && n.code != x(v) {
			out = append(out, to(v, n.codes()...))
		}
	}
	return out, true
}

func look(t *testing.T, a, b []int) bool {
	t.Helper()
	want, ok := expect(a, b)
	answers(t, "by trees", a, b, want, ok, api.OK)
	if t.Failed() {
		t.FailNow()
	}
	return ok
}

// chance is a row of numbers by a fixed rule.
type chance uint32

func (c *chance) below(n int) int {
	*c = *c*1664525 + 1013904223
	return int(*c>>8) % n
}

// term makes a term of at most so many levels, of so many variables.
func (c *chance) term(levels, vars int) []int {
	if levels == 1 || c.below(3) == 0 {
		if c.below(4) == 0 {
			return []int{ann}
		}
		return []int{x(c.below(vars))}
	}
	code := []int{f, g, h, sk, sk1, sk2}[c.below(6)]
	out := []int{code}
	for range symbols()[code].Arity {
		out = append(out, c.term(levels-1, vars)...)
	}
	return out
}

// row makes a row of at most so many codes, and of at most so many terms.
func (c *chance) row(codes, terms int) []int {
	var out []int
	levels, vars := 1+c.below(4), 1+c.below(api.MaxVar+1)
	for range c.below(terms + 1) {
		more := row(out, c.term(levels, vars))
		if len(more) <= codes {
			out = more
		}
	}
	return out
}

// binds makes a substitution that has a bind for some of the variables.
func (c *chance) binds() []api.Bind {
	var out []api.Bind
	for v := range api.MaxVar + 1 {
		r := c.term(1+c.below(3), api.MaxVar+1)
		if c.below(3) > 0 && !slices.Equal(r, []int{x(v)}) {
			out = append(out, to(v, r...))
		}
	}
	return out
}

// instance makes a row, a substitution and what it makes of the row, which is a row too.
func (c *chance) instance() ([]int, []api.Bind, []int) {
	for {
		a, s := c.row(api.MaxTerm, 8), c.binds()
		if b := put(s, a); len(b) <= api.MaxTerm {
			return a, s, b
		}
	}
}

// mend changes one code of r to another one that has as many arguments: it stays a row.
func (c *chance) mend(r []int) []int {
	out := slices.Clone(r)
	if len(r) == 0 {
		return out
	}
	at := c.below(len(r))
	switch out[at] {
	case f:
		out[at] = sk1
	case sk1:
		out[at] = f
	case g:
		out[at] = sk2
	case sk2:
		out[at] = g
	case h:
	default:
		out[at] = []int{ann, sk, x(0), x(1), x(api.MaxVar)}[c.below(5)]
	}
	return out
}

// What a substitution makes of a row is matched by it: by its binds for the variables of the row.
func TestInstances(t *testing.T) {
	c := chance(5)
	most := 0
	for range 20000 {
		a, s, b := c.instance()
		most = max(most, len(b))
		var want []api.Bind
		for _, p := range s {
			if slices.Contains(a, x(p.Var)) {
				want = append(want, p)
			}
		}
		if after, e := bind.Apply(symbols(), s, a); e != api.OK || !slices.Equal(after, b) {
			t.Fatalf("Apply(%v, %v) = %v, %d", s, a, after, e)
		}
		matched(t, "an instance", a, b, want...)
		look(t, a, b)
	}
	if most < api.MaxTerm {
		t.Errorf("no instance has more than %d codes", most)
	}
}

// Rows by chance, and instances with one code changed, or without their last term, or with one more.
func TestManyRows(t *testing.T) {
	c := chance(3)
	is, not := 0, 0
	for range 12000 {
		a, _, b := c.instance()
		pairs := [][2][]int{{a, b}, {b, a}, {a, c.mend(b)}, {c.mend(a), b}, {a, c.row(api.MaxTerm, 8)}, {c.row(9, 2), c.row(9, 2)}}
		if n := len(trees(b)); n > 0 && len(b) < api.MaxTerm {
			last := len(trees(b)[n-1].codes())
			pairs = append(pairs, [2][]int{a, b[:len(b)-last]}, [2][]int{a, row(b, []int{ann})}, [2][]int{a, row([]int{x(2)}, b)})
		}
		for _, p := range pairs {
			if look(t, p[0], p[1]) {
				is++
			} else {
				not++
			}
		}
	}
	if min(is, not) < 10000 {
		t.Errorf("too few of a kind: %d that match, %d that do not", is, not)
	}
}

// Where a row without variables is the second one, matching and unification are one.
func TestGroundRows(t *testing.T) {
	c := chance(13)
	is, not := 0, 0
	for range 20000 {
		a, _, b := c.instance()
		if c.below(2) == 0 {
			b = c.mend(b)
		}
		for i, code := range b {
			if code < 0 {
				b[i] = sk
			}
		}
		want, wantOk, e := unify.Unify(symbols(), a, b)
		if e != api.OK {
			t.Fatalf("Unify(%v, %v): %d", a, b, e)
		}
		answers(t, "as Unify", a, b, want, wantOk, api.OK)
		if wantOk {
			is++
		} else {
			not++
		}
	}
	if min(is, not) < 2000 {
		t.Errorf("too few of a kind: %d that match, %d that do not", is, not)
	}
}

// smallRows are all rows of at most two terms from a short list.
func smallRows() [][]int {
	terms := [][]int{{x(0)}, {x(1)}, {x(2)}, {ann}, {f, x(0)}, {f, x(1)}, {f, x(2)}, {f, ann}, {f, f, x(1)}, {g, x(0), x(1)}, {g, x(1), x(0)}, {g, x(2), x(2)}, {g, ann, x(2)}, {g, f, x(0), x(0)}, {g, f, ann, ann}}
	out := [][]int{nil}
	for _, a := range terms {
		out = append(out, a)
		for _, b := range terms {
			out = append(out, row(a, b))
		}
	}
	return out
}

// choices are all lists of terms for the variables 0 to 2, of those that stand in a row anywhere: a variable can become nothing else. A variable that does not stand in a has no choice.
func choices(a, b []int) [][]api.Bind {
	out := [][]api.Bind{nil}
	for v := range 3 {
		if !slices.Contains(a, x(v)) {
			continue
		}
		var more [][]api.Bind
		for at := range b {
			n, _ := grow(b[at:])
			for _, s := range out {
				more = append(more, append(slices.Clone(s), to(v, n.codes()...)))
			}
		}
		out = more
	}
	return out
}

// By the words of P5.1: all substitutions are tried on all pairs of small rows.
func TestAllSmallRows(t *testing.T) {
	rows := smallRows()
	for _, a := range rows {
		for _, b := range rows {
			var want []api.Bind
			wantOk := false
			for _, s := range choices(a, b) {
				if slices.Equal(put(s, a), b) {
					want, wantOk = s, true
				}
			}
			want = slices.DeleteFunc(want, func(p api.Bind) bool { return p.Term[0] == x(p.Var) })
			answers(t, "by trying", a, b, want, wantOk, api.OK)
			look(t, a, b)
		}
	}
}

// No call may panic, whatever the numbers: wrong symbols and codes together.
func TestWildArguments(t *testing.T) {
	c := chance(9)
	wild := []int{math.MinInt, math.MinInt + 1, -25, -24, -2, -1, 0, 1, 2, 3, 4, 5, 8, 9, 24, 48, math.MaxInt - 1, math.MaxInt}
	pick := func() int { return wild[c.below(len(wild))] }
	codes := func() []int {
		var r []int
		for range c.below(4) {
			r = append(r, pick())
		}
		return r
	}
	for range 30000 {
		sig := symbols()
		if c.below(2) == 0 {
			sig[c.below(len(sig))] = api.Sym{Name: "w", Kind: pick(), Arity: pick(), Weight: pick()}
		}
		a, b := codes(), codes()
		got, ok, e := match.Match(sig, a, b)
		if (e != api.OK && ok) || (!ok && got != nil) {
			t.Fatalf("R2: %v %v: %v, %t, %d", a, b, got, ok, e)
		}
		if e != api.OK && e != api.ErrMatchForm {
			t.Fatalf("P5.1: %v %v: %d", a, b, e)
		}
	}
}

// scribble overwrites binds and their Terms with their spare capacity: what shares their memory changes.
func scribble(s []api.Bind) {
	for _, b := range s {
		r := b.Term[:cap(b.Term)]
		for i := range r {
			r[i] = -777
		}
	}
	clear(s[:cap(s)])
}

func somePairs() [][2][]int {
	long := one(40, ann)
	out := [][2][]int{
		{nil, nil},
		{{x(0)}, {ann}},
		{{x(0), x(1)}, {x(1), x(0)}},
		{{x(0)}, {f, x(0)}},
		{{ann}, {sk}},
		{{x(0), x(0)}, {ann, sk}},
		{{x(0), x(0), x(1)}, {f, ann, f, ann, f, ann}},
		{{x(0), x(1), x(2), x(3)}, row(long, []int{f, ann, f, ann, ann})},
		{{h, x(2), x(1), x(0)}, {h, f, x(0), g, x(1), x(2), ann}},
		{{f}, {ann}},
		{{ann}, {likes, ann, ann}},
		{some(api.MaxTerm, x(0)), some(api.MaxTerm, x(1))},
		{some(api.MaxTerm+1, x(0)), {ann}},
	}
	c := chance(21)
	for range 200 {
		a, _, b := c.instance()
		out = append(out, [2][]int{a, b}, [2][]int{a, c.mend(b)})
	}
	return out
}

func TestArgumentsUnchanged(t *testing.T) {
	for _, p := range somePairs() {
		a, b := row(p[0], some(5, -99, 99)), row(p[1], some(5, -99, 99))
		sig := append(symbols(), api.Sym{Name: "tail", Kind: -7, Arity: -7, Weight: -7})
		aBefore, bBefore, sigBefore := slices.Clone(a), slices.Clone(b), slices.Clone(sig)
		for _, n := range []int{beyond, beyond + 1} {
			got, _, _ := match.Match(sig[:n], a[:len(p[0])], b[:len(p[1])])
			scribble(got)
			got, _, _ = match.Match(sig[:n], a[:len(p[0])], a[:len(p[0])])
			scribble(got)
		}
		if !slices.Equal(a, aBefore) || !slices.Equal(b, bBefore) || !slices.Equal(sig, sigBefore) {
			t.Fatalf("R4: arguments were changed: %v, %v, %v", a, b, sig)
		}
	}
}

func TestSpareCapacityUnread(t *testing.T) {
	all := []int{g, ann, x(0), x(5)}
	refused(t, "codes behind", []int{x(1)}, all[:2])
	matched(t, "codes behind", []int{x(1)}, all[:3], to(1, g, ann, x(0)))
	apart(t, "codes behind", all, all[:3])
	apart(t, "codes behind", all[:3], all)
}

func copyOf(s []api.Bind) []api.Bind {
	var out []api.Bind
	for _, b := range s {
		out = append(out, to(b.Var, slices.Clone(b.Term)...))
	}
	return out
}

// The arguments and an earlier result are overwritten after the call: a result that kept a piece of them would change.
func TestResultsApart(t *testing.T) {
	for _, p := range somePairs() {
		a, b, sig := slices.Clone(p[0]), slices.Clone(p[1]), symbols()
		got, _, _ := match.Match(sig, a, b)
		kept := copyOf(got)
		again, _, _ := match.Match(sig, a, b)
		scribble(again)
		for i := range a {
			a[i] = -777
		}
		for i := range b {
			b[i] = -777
		}
		clear(sig)
		if !sameBinds(got, kept) {
			t.Fatalf("R4: %v and %v: the result shares memory: %v", p[0], p[1], got)
		}
	}
}

// Each Term of a result is overwritten in turn: the others must not notice.
func TestTermsApart(t *testing.T) {
	for _, p := range somePairs() {
		want, _, _ := match.Match(symbols(), p[0], p[1])
		for i := range want {
			got, _, _ := match.Match(symbols(), p[0], p[1])
			scribble(got[i : i+1 : i+1])
			for k := range got {
				if k != i && !slices.Equal(got[k].Term, want[k].Term) {
					t.Fatalf("R4: %v and %v: Terms %d and %d share memory", p[0], p[1], i, k)
				}
			}
		}
	}
}

// Run with -race, this also tells of calls that write what others read.
func TestCallsAtOnce(t *testing.T) {
	sig, pairs := symbols(), somePairs()
	var all sync.WaitGroup
	for range 8 {
		all.Add(1)
		go func() {
			defer all.Done()
			for range 20 {
				for _, p := range pairs[:9] {
					want, wantOk := expect(p[0], p[1])
					got, ok, e := match.Match(sig, p[0], p[1])
					if !sameBinds(got, want) || ok != wantOk || e != api.OK {
						t.Errorf("R5: at once: Match(%v, %v) = %v, %t, %d", p[0], p[1], got, ok, e)
					}
					scribble(got)
				}
			}
		}()
	}
	all.Wait()
}
