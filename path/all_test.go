package path_test

import (
	"math"
	"slices"
	"sync"
	"testing"

	"quaere/api"
	"quaere/bind"
	"quaere/match"
	"quaere/path"
	"quaere/term"
	"quaere/unify"
)

// tree is a term or an atom with the terms that it holds.
type tree struct {
	code int
	args []tree
}

// grow reads what r begins with, and what is behind it.
func grow(r []int) (tree, []int) {
	out := tree{code: r[0]}
	rest := r[1:]
	if out.code >= 0 {
		for range symbols()[out.code].Arity {
			var arg tree
			arg, rest = grow(rest)
			out.args = append(out.args, arg)
		}
	}
	return out, rest
}

func treeOf(r []int) tree {
	out, _ := grow(r)
	return out
}

// treePaths are the paths by the chapter's words, by plain recursion.
func treePaths(n tree, way []int) [][]int {
	out := rows(slices.Concat(way, row(max(n.code, -1))))
	for i, arg := range n.args {
		out = append(out, treePaths(arg, slices.Concat(way, row(i)))...)
	}
	return out
}

// moved is n with other variables: none of them stands in an expression.
func moved(n tree) tree {
	out := tree{code: n.code}
	if n.code < 0 {
		out.code -= api.MaxVar + 1
	}
	for _, arg := range n.args {
		out.args = append(out.args, moved(arg))
	}
	return out
}

// known is what variables are replaced by, one replacement after the other.
type known map[int]tree

// now is n, or what has come for it if it is a variable.
func (k known) now(n tree) tree {
	for n.code < 0 {
		next, is := k[n.code]
		if !is {
			break
		}
		n = next
	}
	return n
}

func (k known) holds(n tree, code int) bool {
	n = k.now(n)
	return n.code == code || slices.ContainsFunc(n.args, func(arg tree) bool { return k.holds(arg, code) })
}

// same makes two terms equal by plain recursion, and answers false if that can not be.
func (k known) same(m, n tree) bool {
	m, n = k.now(m), k.now(n)
	if m.code < n.code {
		m, n = n, m
	}
	switch {
	case m.code == n.code:
		return slices.EqualFunc(m.args, n.args, k.same)
	case n.code >= 0 || m.code >= 0 && k.holds(m, n.code):
		return false
	}
	k[n.code] = m
	return true
}

// becomes tells by plain recursion whether m can be changed to n.
func (k known) becomes(m, n tree) bool {
	if m.code >= 0 {
		return m.code == n.code && slices.EqualFunc(m.args, n.args, k.becomes)
	}
	before, is := k[m.code]
	k[m.code] = n
	return !is || equal(before, n)
}

func equal(m, n tree) bool {
	return m.code == n.code && slices.EqualFunc(m.args, n.args, equal)
}

func isAtom(r []int) bool {
	return r[0] >= 0 && symbols()[r[0]].Kind == api.KindPred
}

// satisfies is the chapter's sentence for one of the expressions.
func satisfies(u, r []int, way int) bool {
	if len(u) == 0 || isAtom(u) != isAtom(r) || isAtom(u) && u[0] != r[0] {
		return false
	}
	m, n := treeOf(r), moved(treeOf(u))
	switch way {
	case api.WayUnify:
		return known{}.same(m, n)
	case api.WayInst:
		return known{}.becomes(m, n)
	default:
		return known{}.becomes(n, m)
	}
}

func expect(ts [][]int, r []int, way int) []int {
	var out []int
	for i, u := range ts {
		if satisfies(u, r, way) {
			out = append(out, i)
		}
	}
	return out
}

// chance is a row of numbers by a fixed rule.
type chance uint32

func (c *chance) below(n int) int {
	*c = *c*1664525 + 1013904223
	return int(*c>>8) % n
}

// term makes a term of at most so many levels, of so many variables.
func (c *chance) term(levels, vars int) []int {
	if levels <= 1 || c.below(4) == 0 {
		if c.below(4) == 0 {
			return row([]int{ann, bob, sk}[c.below(3)])
		}
		return row(x(c.below(vars)))
	}
	return c.filled([]int{f, f, g, g, h, sk2}[c.below(6)], levels, vars)
}

func (c *chance) filled(code, levels, vars int) []int {
	out := row(code)
	for range symbols()[code].Arity {
		out = append(out, c.term(levels-1, vars)...)
	}
	return out
}

// expression makes a term or an atom.
func (c *chance) expression(levels, vars int) []int {
	for {
		out := c.term(levels, vars)
		if c.below(2) == 0 {
			out = c.filled([]int{eq, rains, tall, likes, between, knows}[c.below(6)], levels, vars)
		}
		if len(out) <= api.MaxTerm {
			return out
		}
	}
}

// mended makes an expression out of r: parts of it become variables, or variables something else.
func (c *chance) mended(r []int, vars int) []int {
	for {
		out := c.mend(treeOf(r), vars, true)
		if len(out) <= api.MaxTerm {
			return out
		}
	}
}

func (c *chance) mend(n tree, vars int, whole bool) []int {
	if !whole && c.below(6) == 0 {
		return row(x(c.below(vars)))
	}
	if n.code < 0 && c.below(2) == 0 {
		return c.term(2, vars)
	}
	out := row(n.code)
	for _, arg := range n.args {
		out = append(out, c.mend(arg, vars, false)...)
	}
	return out
}

// round makes an expression and a list to look through, with expressions that are alike and some that are empty.
func (c *chance) round() ([]int, [][]int) {
	levels, vars := 1+c.below(4), 1+c.below(6)
	r := c.expression(levels, vars)
	var ts [][]int
	for range c.below(10) {
		switch c.below(8) {
		case 0:
			ts = append(ts, nil)
		case 1, 2:
			ts = append(ts, c.expression(levels, vars))
		case 3:
			ts = append(ts, slices.Clone(r))
		default:
			ts = append(ts, c.mended(r, vars))
		}
	}
	return r, ts
}

func TestPathsOfMany(t *testing.T) {
	c := chance(12)
	most := 0
	for range 20000 {
		r := c.expression(1+c.below(6), api.MaxVar+1)
		most = max(most, len(r))
		lists(t, "by a tree", r, treePaths(treeOf(r), nil)...)
		if t.Failed() {
			return
		}
	}
	if most < api.MaxTerm-2 {
		t.Errorf("no expression has more than %d codes", most)
	}
}

// Every list of at most five codes: paths if it is an expression by what layer 2 says of it, otherwise none.
func TestAllShortLists(t *testing.T) {
	codes := []int{x(api.MaxVar + 1), x(api.MaxVar), x(0), eq, rains, tall, ann, f, g, between, beyond}
	lists := rows(nil)
	expressions := 0
	for range 5 {
		var longer [][]int
		for _, r := range lists {
			for _, code := range codes {
				longer = append(longer, append(slices.Clone(r), code))
			}
		}
		for _, r := range longer {
			if looksRight(t, r) {
				expressions++
			}
		}
		lists = longer
		if t.Failed() {
			return
		}
	}
	if expressions < 400 {
		t.Errorf("only %d expressions", expressions)
	}
}

// looksRight holds the paths of a list of codes against what is to be answered, and tells whether it is an expression.
func looksRight(t *testing.T, r []int) bool {
	t.Helper()
	want := 1
	terms := r
	if code := r[0]; code >= 0 && code < beyond && symbols()[code].Kind == api.KindPred {
		want, terms = symbols()[code].Arity, r[1:]
	}
	n, e := term.Row(symbols(), terms)
	if e != api.OK || n != want {
		refusedPaths(t, "no expression", symbols(), r)
		return false
	}
	got, e := path.Paths(symbols(), r)
	if e != api.OK || !samePaths(got, treePaths(treeOf(r), nil)) {
		t.Errorf("P12.1: Paths(%v) = %v, %d", r, got, e)
	}
	return true
}

// The subterm to which a path leads is found again by layer 2, from position to position.
func TestPathsLeadThere(t *testing.T) {
	c := chance(4)
	for range 3000 {
		r := c.expression(1+c.below(5), 3)
		got, _ := path.Paths(symbols(), r)
		if len(got) != len(r) {
			t.Fatalf("P12.1: Paths(%v): %d lists", r, len(got))
		}
		for at, p := range got {
			rest := r
			for _, position := range p[:len(p)-1] {
				args := rest[1:]
				starts, _ := term.Starts(symbols(), args)
				rest = args[starts[position]:]
			}
			if len(rest) != len(r)-at || max(rest[0], -1) != p[len(p)-1] {
				t.Fatalf("P12.1: Paths(%v): %v does not lead to index %d", r, p, at)
			}
		}
	}
}

func TestFindMany(t *testing.T) {
	c := chance(7)
	var found, not [3]int
	for range 8000 {
		r, ts := c.round()
		for _, way := range ways() {
			want := expect(ts, r, way)
			finds(t, "by trees", way, ts, r, want...)
			found[way] += len(want)
			not[way] += len(ts) - len(want)
		}
		if t.Failed() {
			return
		}
	}
	if min(slices.Min(found[:]), slices.Min(not[:])) < 5000 {
		t.Errorf("too few of a kind: %v found, %v not", found, not)
	}
}

// apart is u with other variables than r has, by layer 3, and the rows of both without their predicates; false if they can not be of one kind.
func apart(u, r []int) ([]int, []int, bool) {
	if len(u) == 0 || isAtom(u) != isAtom(r) || isAtom(u) && u[0] != r[0] {
		return nil, nil, false
	}
	if isAtom(u) {
		u, r = u[1:], r[1:]
	}
	other, e := bind.Shift(symbols(), u, 12)
	return other, r, e == api.OK
}

// stretched makes a term of eight terms: by turns a variable, and one in which a variable stands three times. Beside another one that has its variables where this one has none, they may become very long.
func (c *chance) stretched(first int) []int {
	var out []int
	for i := range 8 {
		v := x(c.below(8))
		out = append(out, g)
		if i%2 == first {
			out = append(out, v)
		} else {
			out = append(out, append(one(1+c.below(4), h), v, v, v)...)
		}
	}
	return append(out, ann)
}

// Layers 4 and 5 say the same of one expression after the other, while all variables have numbers; what becomes too long counts.
func TestFindByLayers(t *testing.T) {
	c := chance(14)
	long := 0
	for i := range 6000 {
		r, ts := c.round()
		if i%2 == 0 {
			r, ts = c.stretched(0), rows(c.stretched(1), c.stretched(0), nil, c.stretched(1))
		}
		var want [3][]int
		for i, u := range ts {
			other, terms, ok := apart(u, r)
			if !ok {
				continue
			}
			_, is, e := unify.Unify(symbols(), terms, other)
			if e == api.ErrUnifyLong {
				long++
			}
			if is || e == api.ErrUnifyLong {
				want[api.WayUnify] = append(want[api.WayUnify], i)
			}
			if _, is, _ := match.Match(symbols(), terms, other); is {
				want[api.WayInst] = append(want[api.WayInst], i)
			}
			if _, is, _ := match.Match(symbols(), other, terms); is {
				want[api.WayGen] = append(want[api.WayGen], i)
			}
		}
		for _, way := range ways() {
			finds(t, "by layers 4 and 5", way, ts, r, want[way]...)
		}
		if t.Failed() {
			return
		}
	}
	if long < 500 {
		t.Errorf("only %d too long", long)
	}
}

// changed is r with the variables of a substitution replaced.
func changed(s []api.Bind, r []int) []int {
	var out []int
next:
	for _, code := range r {
		for _, b := range s {
			if code == x(b.Var) {
				out = append(out, b.Term...)
				continue next
			}
		}
		out = append(out, code)
	}
	return out
}

// Two instances of one expression, made by any substitutions, are found from it; and it from them, and all three with one another where they must be.
func TestInstances(t *testing.T) {
	c := chance(6)
	done := 0
	for range 10000 {
		r := c.expression(1+c.below(4), 5)
		var s, ground []api.Bind
		for v := range 5 {
			s = append(s, api.Bind{Var: v, Term: c.term(1+c.below(3), 5)})
			ground = append(ground, api.Bind{Var: v, Term: row(ann)})
		}
		u := changed(s, r)
		if len(u) > api.MaxTerm {
			continue
		}
		done++
		least := changed(ground, u)
		finds(t, "an instance", api.WayInst, rows(u, least), r, 0, 1)
		finds(t, "of what it is an instance", api.WayGen, rows(r, u, least), least, 0, 1, 2)
		finds(t, "instances", api.WayUnify, rows(r, u, least), r, 0, 1, 2)
		finds(t, "a common instance", api.WayUnify, rows(r, u, least), least, 0, 1, 2)
		if t.Failed() {
			return
		}
	}
	if done < 5000 {
		t.Errorf("only %d", done)
	}
}

// has tells whether Find finds u.
func has(u, r []int, way int) bool {
	got, e := path.Find(symbols(), rows(u), r, way)
	return e == api.OK && len(got) == 1
}

// renamed is r with each variable's number exchanged for another one.
func renamed(r []int) []int {
	out := slices.Clone(r)
	for i, code := range out {
		if code < 0 {
			out[i] = x((-1-code)*7%(api.MaxVar+1) ^ 1)
		}
	}
	return out
}

func TestWaysAgainstOneAnother(t *testing.T) {
	c := chance(2)
	for range 8000 {
		r, ts := c.round()
		for _, u := range ts {
			if len(u) == 0 {
				continue
			}
			unify, inst, gen := has(u, r, api.WayUnify), has(u, r, api.WayInst), has(u, r, api.WayGen)
			if (inst || gen) && !unify {
				t.Fatalf("P12.2: %v and %v: one can be changed to the other one, but they can not be unified", u, r)
			}
			if has(r, u, api.WayUnify) != unify || has(r, u, api.WayInst) != gen || has(r, u, api.WayGen) != inst {
				t.Fatalf("P12.2: %v and %v: not the same the other way round", u, r)
			}
			if has(renamed(u), r, api.WayUnify) != unify || has(u, renamed(r), api.WayInst) != inst || has(renamed(u), renamed(r), api.WayGen) != gen {
				t.Fatalf("P12.2: %v and %v: not the same for other numbers of variables", u, r)
			}
			if inst && gen && len(u) != len(r) {
				t.Fatalf("P12.2: %v and %v can be changed to each other", u, r)
			}
		}
	}
}

// Each of the list is found or not whatever stands beside it.
func TestOneByOne(t *testing.T) {
	c := chance(3)
	for range 5000 {
		r, ts := c.round()
		for _, way := range ways() {
			var want []int
			for i, u := range ts {
				if len(u) > 0 && has(u, r, way) {
					want = append(want, i)
				}
			}
			finds(t, "one by one", way, ts, r, want...)
		}
		if t.Failed() {
			return
		}
	}
}

// clash tells whether the paths of two expressions lead to different symbols at one position.
func clash(t *testing.T, a, b []int) bool {
	t.Helper()
	p, e := path.Paths(symbols(), a)
	q, f := path.Paths(symbols(), b)
	if e != api.OK || f != api.OK {
		t.Fatalf("P12.1: %v and %v: %d, %d", a, b, e, f)
	}
	for _, one := range p {
		for _, other := range q {
			n, m := len(one)-1, len(other)-1
			if slices.Equal(one[:n], other[:m]) && min(one[n], other[m]) >= 0 && one[n] != other[m] {
				return true
			}
		}
	}
	return false
}

func TestPathsOfUnified(t *testing.T) {
	for _, c := range []struct {
		a, b []int
		want bool
	}{
		{row(g, x(0), ann), row(g, f, bob, x(1)), false},
		{row(g, x(0), ann), row(g, f, bob, sk), true},
		{row(g, f, ann, x(0)), row(g, f, bob, x(0)), true},
		{row(likes, ann, x(0)), row(knows, ann, x(0)), true},
		{row(x(0)), row(f, ann), false},
		{row(f, ann), row(g, ann, ann), true},
		{row(g, x(0), x(0)), row(g, ann, bob), false},
	} {
		if clash(t, c.a, c.b) != c.want || clash(t, c.b, c.a) != c.want {
			t.Errorf("P12.3: %v and %v: not %t", c.a, c.b, c.want)
		}
	}
	c := chance(5)
	found := 0
	for range 10000 {
		r, ts := c.round()
		for _, way := range ways() {
			got, _ := path.Find(symbols(), ts, r, way)
			for _, i := range got {
				found++
				if clash(t, ts[i], r) {
					t.Fatalf("P12.3: %v and %v are found by %d, but their paths lead to different symbols", ts[i], r, way)
				}
			}
		}
	}
	if found < 10000 {
		t.Errorf("only %d found", found)
	}
}

// linear is r with a variable of its own at each place of a variable.
func linear(r []int) []int {
	out := slices.Clone(r)
	v := 0
	for i, code := range out {
		if code < 0 {
			out[i] = x(v)
			v++
		}
	}
	return out
}

// Where no variable stands twice, the paths tell all: expressions of one kind can be unified unless their paths lead to different symbols.
func TestLinear(t *testing.T) {
	c := chance(10)
	var count [2]int
	for range 10000 {
		r, ts := c.round()
		r = linear(r)
		for _, u := range ts {
			if len(u) == 0 || isAtom(u) != isAtom(r) {
				continue
			}
			u = linear(u)
			is := has(u, r, api.WayUnify)
			if is == clash(t, u, r) {
				t.Fatalf("P12.2: %v and %v can be unified: %t", u, r, is)
			}
			if is {
				count[1]++
			} else {
				count[0]++
			}
		}
	}
	if slices.Min(count[:]) < 2000 {
		t.Errorf("too few of a kind: %v", count)
	}
}

// smallTerms are all terms of at most three codes from a short list of symbols and of two variables.
func smallTerms() [][]int {
	leaves := rows(row(x(0)), row(x(1)), row(ann), row(bob))
	out := slices.Clone(leaves)
	for _, a := range leaves {
		out = append(out, append(row(f), a...), append(row(f, f), a...))
		for _, b := range leaves {
			out = append(out, slices.Concat(row(g), a, b))
		}
	}
	return out
}

// smallInstances are the instances of r by all substitutions of the variables 0 and 1 by these terms.
func smallInstances(r []int, terms [][]int) [][]int {
	var out [][]int
	for _, a := range terms {
		for _, b := range terms {
			out = append(out, changed([]api.Bind{{Var: 0, Term: a}, {Var: 1, Term: b}}, r))
		}
	}
	return out
}

// What the ways mean, by trying: of all small terms, as arguments of one predicate, which have an instance in common, and which is an instance of the other one.
func TestAllSmall(t *testing.T) {
	terms := smallTerms()
	ground := slices.DeleteFunc(slices.Clone(terms), func(r []int) bool { return slices.Min(r) < 0 })
	var atoms [][]int
	for _, a := range terms {
		atoms = append(atoms, append(row(tall), a...))
	}
	name := func(r []int) [8]int {
		var out [8]int
		copy(out[:], r)
		return out
	}
	for _, list := range [][][]int{terms, atoms} {
		instances, grounds := make([]map[[8]int]int, len(list)), make([]map[[8]int]int, len(list))
		for i, r := range list {
			instances[i], grounds[i] = map[[8]int]int{}, map[[8]int]int{}
			for _, u := range smallInstances(r, terms) {
				instances[i][name(u)] = 1
			}
			for _, u := range smallInstances(r, ground) {
				grounds[i][name(u)] = 1
			}
		}
		for i, r := range list {
			var unify, inst, gen []int
			for k, u := range list {
				for common := range grounds[i] {
					if grounds[k][common] == 1 {
						unify = append(unify, k)
						break
					}
				}
				if instances[i][name(u)] == 1 {
					inst = append(inst, k)
				}
				if instances[k][name(r)] == 1 {
					gen = append(gen, k)
				}
			}
			finds(t, "by trying", api.WayUnify, list, r, unify...)
			finds(t, "by trying", api.WayInst, list, r, inst...)
			finds(t, "by trying", api.WayGen, list, r, gen...)
		}
	}
}

// No call may panic, whatever the numbers: wrong symbols, codes and ways together.
func TestWildArguments(t *testing.T) {
	c := chance(9)
	wild := []int{math.MinInt, math.MinInt + 1, -25, -24, -2, -1, 0, 1, 2, 3, 4, 6, 7, 8, 11, 14, 24, 48, math.MaxInt - 1, math.MaxInt}
	pick := func() int { return wild[c.below(len(wild))] }
	codes := func() []int {
		var r []int
		for range c.below(4) {
			r = append(r, pick())
		}
		return r
	}
	for range 30000 {
		sig := symbols()
		if c.below(2) == 0 {
			sig[c.below(len(sig))] = api.Sym{Name: "w", Kind: pick(), Arity: pick(), Weight: pick()}
		}
		r := codes()
		if got, e := path.Paths(sig, r); e != api.OK && (e != api.ErrPathForm || got != nil) || e == api.OK && len(got) != len(r) {
			t.Fatalf("R1, R2: Paths(%v): %v, %d", r, got, e)
		}
		var ts [][]int
		for range c.below(3) {
			ts = append(ts, codes())
		}
		way := c.below(3)
		if c.below(4) == 0 {
			way = pick()
		}
		if got, e := path.Find(sig, ts, r, way); e != api.OK && (e != api.ErrPathForm || got != nil) || len(got) > len(ts) {
			t.Fatalf("R1, R2: Find(%v, %v, %d): %v, %d", ts, r, way, got, e)
		}
	}
}

// scribble overwrites a list with its spare capacity: what shares its memory changes.
func scribble(r []int) {
	r = r[:cap(r)]
	for i := range r {
		r[i] = -777
	}
}

func scribbleAll(rs [][]int) {
	for _, r := range rs {
		scribble(r)
	}
	clear(rs[:cap(rs)])
}

func copied(rs [][]int) [][]int {
	var out [][]int
	for _, r := range rs {
		out = append(out, slices.Clone(r))
	}
	return out
}

// someRounds are calls of each kind, wrong ones too.
func someRounds() (rs [][]int, lists [][][]int) {
	c := chance(21)
	for range 300 {
		r, ts := c.round()
		rs, lists = append(rs, r), append(lists, ts)
	}
	for _, r := range rows(longestTerm(), longestAtom(), one(api.MaxTerm, x(0)), row(rains), row(x(0)), row(f), nil, row(beyond), row(ann)) {
		rs, lists = append(rs, r), append(lists, rows(r, row(x(1)), nil, r, row(rains), longestAtom(), longestTerm()))
	}
	return rs, lists
}

// Arguments with what must not be touched behind each of them: their own spare capacity.
func TestArgumentsUnchanged(t *testing.T) {
	rs, lists := someRounds()
	for i := range rs {
		sig := append(symbols(), api.Sym{Name: "tail", Kind: -7, Arity: -7, Weight: -7})
		r := slices.Concat(rs[i], row(-99, 99, -99, 99))
		var ts [][]int
		for _, u := range lists[i] {
			ts = append(ts, slices.Concat(u, row(-99, 99, -99, 99)))
		}
		ts = append(ts, row(-99), nil, row(ann))
		sigBefore, rBefore, tsBefore := slices.Clone(sig), slices.Clone(r), copied(ts)
		call := slices.Clone(ts)
		for k, u := range lists[i] {
			call[k] = ts[k][:len(u)]
		}
		callBefore := slices.Clone(call)
		got, _ := path.Paths(sig[:beyond], r[:len(rs[i])])
		scribbleAll(got)
		for way := -1; way <= 3; way++ {
			found, _ := path.Find(sig[:beyond], call[:len(lists[i])], r[:len(rs[i])], way)
			scribble(found)
		}
		_, e := path.Find(sig, call, r, api.WayInst)
		if e != api.ErrPathForm || !slices.Equal(sig, sigBefore) || !slices.Equal(r, rBefore) || !samePaths(ts, tsBefore) {
			t.Fatalf("R4: arguments were changed: %v, %v, %v", sig, r, ts)
		}
		for k := range call {
			if len(call[k]) != len(callBefore[k]) || cap(call[k]) != cap(callBefore[k]) || len(call[k]) > 0 && &call[k][0] != &callBefore[k][0] {
				t.Fatalf("R4: another list stands at %d", k)
			}
		}
	}
}

func TestSpareCapacityUnread(t *testing.T) {
	all := row(g, ann, x(0), x(5))
	lists(t, "codes behind", all[:3], row(g), row(0, ann), row(1, -1))
	refusedPaths(t, "codes behind", symbols(), all[:2])
	ts := rows(row(ann), row(x(0)), row(ann), row(f))
	for _, way := range ways() {
		finds(t, "expressions behind", way, ts[:1], row(ann), 0)
		finds(t, "expressions behind", way, ts[:0], row(ann))
		refused(t, "expressions behind", symbols(), ts[:4], row(ann), way)
		refused(t, "codes behind", symbols(), ts[:1], all[:2], way)
		refused(t, "codes behind", symbols(), rows(all[:2]), row(ann), way)
		finds(t, "codes behind", way, rows(all[:3]), all[:3], 0)
		finds(t, "codes behind an empty one", way, rows(all[:0]), all[:3])
	}
}

// The arguments and an earlier result are overwritten after the call: a result that kept a piece of them would change.
func TestResultsApart(t *testing.T) {
	rs, lists := someRounds()
	for i := range rs {
		sig, r, ts := symbols(), slices.Clone(rs[i]), copied(lists[i])
		got, _ := path.Paths(sig, r)
		kept := copied(got)
		again, _ := path.Paths(sig, r)
		scribbleAll(again)
		var found, keptFound [3][]int
		for _, way := range ways() {
			found[way], _ = path.Find(sig, ts, r, way)
			keptFound[way] = slices.Clone(found[way])
			twice, _ := path.Find(sig, ts, r, way)
			scribble(twice)
		}
		scribble(r)
		scribbleAll(ts)
		clear(sig)
		if !samePaths(got, kept) {
			t.Fatalf("R4: Paths(%v): the result shares memory: %v", rs[i], got)
		}
		for _, way := range ways() {
			if !slices.Equal(found[way], keptFound[way]) {
				t.Fatalf("R4: Find(%v, %v, %d): the result shares memory: %v", lists[i], rs[i], way, found[way])
			}
		}
	}
}

// Each path of a result is overwritten in turn, and appended to: the others must not notice.
func TestPathsApart(t *testing.T) {
	rs, _ := someRounds()
	for _, r := range rs {
		want, _ := path.Paths(symbols(), r)
		for i := range want {
			got, _ := path.Paths(symbols(), r)
			scribble(got[i])
			for k := range got {
				if k != i && !slices.Equal(got[k], want[k]) {
					t.Fatalf("R4: Paths(%v): lists %d and %d share memory", r, i, k)
				}
			}
		}
	}
}

// Run with -race, this also tells of calls that write what others read.
func TestCallsAtOnce(t *testing.T) {
	sig := symbols()
	rs, lists := someRounds()
	rs, lists = rs[:40], lists[:40]
	var all sync.WaitGroup
	for range 8 {
		all.Add(1)
		go func() {
			defer all.Done()
			for i, r := range rs {
				got, e := path.Paths(sig, r)
				if e != api.OK || !samePaths(got, treePaths(treeOf(r), nil)) {
					t.Errorf("R5: at once: Paths(%v) = %v, %d", r, got, e)
				}
				scribbleAll(got)
				for _, way := range ways() {
					found, e := path.Find(sig, lists[i], r, way)
					if e != api.OK || !slices.Equal(found, expect(lists[i], r, way)) {
						t.Errorf("R5: at once: Find(%v, %v, %d) = %v, %d", lists[i], r, way, found, e)
					}
					scribble(found)
				}
			}
		}()
	}
	all.Wait()
}
