package order_test

import (
	"math"
	"slices"
	"sync"
	"testing"

	"quaere/api"
	"quaere/bind"
	"quaere/order"
)

// tree is a term or an atom with the terms that it holds.
type tree struct {
	code int
	args []tree
}

// grow reads the expression that r begins with, and what is behind it.
func grow(r []int) (tree, []int) {
	out := tree{code: r[0]}
	rest := r[1:]
	if out.code >= 0 {
		for range symbols()[out.code].Arity {
			var arg tree
			arg, rest = grow(rest)
			out.args = append(out.args, arg)
		}
	}
	return out, rest
}

func equal(m, n tree) bool {
	return m.code == n.code && slices.EqualFunc(m.args, n.args, equal)
}

func (n tree) weight() int {
	sum := 1
	if n.code >= 0 {
		sum = symbols()[n.code].Weight
	}
	for _, arg := range n.args {
		sum += arg.weight()
	}
	return sum
}

// count tells how often a code stands in the tree.
func (n tree) count(code int) int {
	sum := 0
	if n.code == code {
		sum = 1
	}
	for _, arg := range n.args {
		sum += arg.count(code)
	}
	return sum
}

// more is P6.1 word by word.
func (m tree) more(n tree) bool {
	for v := range api.MaxVar + 1 {
		if m.count(x(v)) < n.count(x(v)) {
			return false
		}
	}
	if m.weight() != n.weight() {
		return m.weight() > n.weight()
	}
	if m.code != n.code {
		return m.code > n.code
	}
	for i := range m.args {
		if !equal(m.args[i], n.args[i]) {
			return m.args[i].more(n.args[i])
		}
	}
	return false
}

// expect is what Compare is to answer for two terms or two atoms.
func expect(a, b []int) int {
	m, _ := grow(a)
	n, _ := grow(b)
	switch {
	case equal(m, n):
		return api.OrderSame
	case m.more(n):
		return api.OrderMore
	case n.more(m):
		return api.OrderLess
	}
	return api.OrderNone
}

func opposite(how int) int {
	switch how {
	case api.OrderLess:
		return api.OrderMore
	case api.OrderMore:
		return api.OrderLess
	}
	return how
}

// compare answers for two expressions of the same sort.
func compare(t *testing.T, a, b []int) int {
	t.Helper()
	how, e := order.Compare(symbols(), a, b)
	if e != api.OK {
		t.Fatalf("P6.1: Compare(%v, %v): %d", a, b, e)
	}
	return how
}

// look compares both ways round, and with what the words say.
func look(t *testing.T, a, b []int) int {
	t.Helper()
	how, back := compare(t, a, b), compare(t, b, a)
	if want := expect(a, b); how != want {
		t.Fatalf("P6.1: Compare(%v, %v) = %d, not %d", a, b, how, want)
	}
	if back != opposite(how) {
		t.Fatalf("P6.1: Compare(%v, %v) = %d, the other way round %d", a, b, how, back)
	}
	return how
}

// chance is a row of numbers by a fixed rule.
type chance uint32

func (c *chance) below(n int) int {
	*c = *c*1664525 + 1013904223
	return int(*c>>8) % n
}

// term makes a term of at most so many levels, of so many variables.
func (c *chance) term(levels, vars int) []int {
	if levels == 1 || c.below(4) == 0 {
		if vars > 0 && c.below(2) == 0 {
			return []int{x(c.below(vars))}
		}
		return []int{[]int{ann, bob, cid, sk}[c.below(4)]}
	}
	return c.filled([]int{f, k, g, sk2, h}[c.below(5)], levels-1, vars)
}

// filled makes a term or an atom of a symbol.
func (c *chance) filled(code, levels, vars int) []int {
	out := []int{code}
	for range symbols()[code].Arity {
		out = append(out, c.term(levels, vars)...)
	}
	return out
}

// fits tells whether r is no longer than a term or an atom may be.
func fits(r []int) bool {
	return len(r) <= api.MaxTerm || len(r) == api.MaxTerm+1 && symbols()[r[0]].Kind == api.KindPred
}

// expression makes a term, or an atom, of so many variables.
func (c *chance) expression(atom bool, vars int) []int {
	for {
		levels := 1 + c.below(4)
		r := c.term(levels, vars)
		if atom {
			r = c.filled([]int{eq, likes, knows, rains, tall, between, snows}[c.below(7)], levels, vars)
		}
		if fits(r) {
			return r
		}
	}
}

// mend changes one code of r to another one of the same sort that has as many arguments.
func (c *chance) mend(r []int, vars int) []int {
	groups := [][]int{{ann, bob, cid, sk}, {f, k}, {g, sk2}, {eq, likes, knows}, {rains, snows}}
	for v := range vars {
		groups[0] = append(groups[0], x(v))
	}
	out := slices.Clone(r)
	at := c.below(len(r))
	for _, group := range groups {
		if slices.Contains(group, r[at]) {
			out[at] = group[c.below(len(group))]
		}
	}
	return out
}

// exchange puts the first two arguments of the expression in the other order, if it has as many.
func exchange(r []int) []int {
	n, _ := grow(r)
	if len(n.args) < 2 {
		return r
	}
	out := slices.Clone(r[:1])
	_, behind := grow(r[1:])
	first := r[1 : len(r)-len(behind)]
	_, rest := grow(behind)
	second := behind[:len(behind)-len(rest)]
	return row(out, second, first, rest)
}

// other makes an expression that is near to a: the results hang on little.
func (c *chance) other(a []int, atom bool, vars int) []int {
	switch c.below(6) {
	case 0:
		return c.expression(atom, vars)
	case 1:
		return exchange(a)
	case 2:
		return c.mend(c.mend(a, vars), vars)
	case 3:
		return c.mend(exchange(a), vars)
	case 4:
		return slices.Clone(a)
	}
	return c.mend(a, vars)
}

func TestManyExpressions(t *testing.T) {
	c := chance(3)
	var seen [2][4]int
	most := 0
	for i := range 60000 {
		atom, vars := i%2 == 1, []int{0, 1, 2, 3, api.MaxVar + 1}[c.below(5)]
		a := c.expression(atom, vars)
		b := c.other(a, atom, vars)
		most = max(most, len(a))
		seen[i%2][look(t, a, b)]++
	}
	for i, counts := range seen {
		if slices.Min(counts[:]) < 1000 {
			t.Errorf("too few of a result: %d %v", i, counts)
		}
	}
	if most < api.MaxTerm+1 {
		t.Errorf("no expression has more than %d codes", most)
	}
}

// smallTerms are all terms of at most so many codes, of the symbols and variables that are told.
func smallTerms(codes int, of ...int) [][]int {
	sizes := make([][][]int, codes+1)
	for size := 1; size <= codes; size++ {
		for _, code := range of {
			arity := 0
			if code >= 0 {
				arity = symbols()[code].Arity
			}
			for _, args := range rowsOf(sizes, arity, size-1) {
				sizes[size] = append(sizes[size], row([]int{code}, args))
			}
		}
	}
	return slices.Concat(sizes...)
}

// rowsOf are all rows of n terms and so many codes, of terms by their sizes.
func rowsOf(sizes [][][]int, n, codes int) [][]int {
	if n == 0 {
		if codes == 0 {
			return [][]int{nil}
		}
		return nil
	}
	var out [][]int
	for size := 1; size <= codes; size++ {
		for _, first := range sizes[size] {
			for _, rest := range rowsOf(sizes, n-1, codes-size) {
				out = append(out, row(first, rest))
			}
		}
	}
	return out
}

// smallAtoms are all atoms of a few terms.
func smallAtoms() [][]int {
	terms := [][]int{{x(0)}, {x(1)}, {ann}, {bob}, {f, x(0)}, {k, ann}}
	out := [][]int{{rains}, {snows}}
	for _, a := range terms {
		out = append(out, row([]int{tall}, a))
		for _, b := range terms {
			out = append(out, row([]int{eq}, a, b), row([]int{likes}, a, b), row([]int{knows}, a, b))
		}
	}
	return out
}

func TestAllSmallExpressions(t *testing.T) {
	for _, all := range [][][]int{smallTerms(4, x(0), x(1), ann, f, k, g), smallTerms(4, x(2), bob, cid, sk2, h, sk), smallAtoms()} {
		for _, a := range all {
			for _, b := range all {
				look(t, a, b)
			}
		}
	}
}

// What is more than what is more than a third is more than the third; nothing is more than itself.
func TestMoreThanMore(t *testing.T) {
	for _, all := range [][][]int{smallTerms(3, x(0), x(1), ann, bob, f, k, g), smallTerms(4, x(0), bob, cid, f, sk2), smallAtoms()} {
		more := make([][]bool, len(all))
		for i, a := range all {
			more[i] = make([]bool, len(all))
			for j, b := range all {
				more[i][j] = compare(t, a, b) == api.OrderMore
			}
		}
		for i := range all {
			for j := range all {
				for l := range all {
					if more[i][j] && more[j][l] && !more[i][l] {
						t.Fatalf("P6.1: %v is more than %v, and this than %v, but not the first than the last", all[i], all[j], all[l])
					}
				}
			}
		}
	}
}

// Of two different expressions without variables, one is more.
func TestWithoutVariables(t *testing.T) {
	for _, all := range [][][]int{smallTerms(5, ann, bob, f, g), smallTerms(4, ann, cid, sk, k, sk2, h)} {
		for i, a := range all {
			for j, b := range all {
				how := compare(t, a, b)
				if (how == api.OrderSame) != (i == j) || how == api.OrderNone {
					t.Fatalf("P6.1: without variables: Compare(%v, %v) = %d", a, b, how)
				}
			}
		}
	}
	c := chance(17)
	for i := range 20000 {
		a := c.expression(i%2 == 1, 0)
		b := c.other(a, i%2 == 1, 0)
		if how := compare(t, a, b); how == api.OrderNone || (how == api.OrderSame) != slices.Equal(a, b) {
			t.Fatalf("P6.1: without variables: Compare(%v, %v) = %d", a, b, how)
		}
	}
}

// A term is more than each of its parts, and what is more remains so inside of a symbol.
func TestInside(t *testing.T) {
	c := chance(29)
	for range 5000 {
		a := c.expression(false, 3)
		for at := 1; at < len(a); at++ {
			_, rest := grow(a[at:])
			part := a[at : len(a)-len(rest)]
			if how := compare(t, a, part); how != api.OrderMore {
				t.Fatalf("P6.1: Compare(%v, %v) = %d", a, part, how)
			}
		}
		b := c.other(a, false, 3)
		before, behind := c.term(2, 3), c.term(2, 3)
		m, n := row([]int{h}, before, a, behind), row([]int{h}, before, b, behind)
		if fits(m) && fits(n) && compare(t, a, b) != compare(t, m, n) {
			t.Fatalf("P6.1: %v and %v compare otherwise inside of a symbol", a, b)
		}
	}
}

// apply replaces the variables of a term or an atom, and answers false if the result is too long.
func apply(t *testing.T, s []api.Bind, a []int) ([]int, bool) {
	t.Helper()
	head, r := []int(nil), a
	if a[0] >= 0 && symbols()[a[0]].Kind == api.KindPred {
		head, r = a[:1], a[1:]
	}
	out, e := bind.Apply(symbols(), s, r)
	if e != api.OK && e != api.ErrBindLong {
		t.Fatalf("Apply(%v, %v): %d", s, r, e)
	}
	return row(head, out), e == api.OK
}

// binds makes a substitution for some of so many variables.
func (c *chance) binds(vars int) []api.Bind {
	var out []api.Bind
	for v := range vars {
		r := c.term(1+c.below(3), vars+1)
		if c.below(4) > 0 && r[0] != x(v) {
			out = append(out, api.Bind{Var: v, Term: r})
		}
	}
	return out
}

// P6.2: what is more remains so.
func TestSubstitutions(t *testing.T) {
	c := chance(41)
	tried := 0
	for i := range 60000 {
		atom, vars := i%2 == 1, 1+c.below(4)
		a := c.expression(atom, vars)
		b := c.other(a, atom, vars)
		how := look(t, a, b)
		if how == api.OrderNone {
			continue
		}
		s := c.binds(vars)
		m, fitsM := apply(t, s, a)
		n, fitsN := apply(t, s, b)
		if !fitsM || !fitsN {
			continue
		}
		if after := look(t, m, n); after != how {
			t.Fatalf("P6.2: Compare(%v, %v) = %d, with %v applied it is %d", a, b, how, s, after)
		}
		if how != api.OrderSame && !slices.Equal(a, m) {
			tried++
		}
	}
	if tried < 5000 {
		t.Errorf("only %d were changed by a substitution", tried)
	}
}

// P6.2: all pairs of small terms with all small terms for their variables.
func TestAllSmallSubstitutions(t *testing.T) {
	all := smallTerms(3, x(0), x(1), ann, f, k, g)
	terms := [][]int{{x(0)}, {x(1)}, {ann}, {bob}, {f, x(1)}, {f, x(0)}, {g, x(1), x(0)}, {sk}}
	var substitutions [][]api.Bind
	for _, first := range terms {
		for _, second := range terms {
			s := []api.Bind{{Var: 0, Term: first}, {Var: 1, Term: second}}
			substitutions = append(substitutions, slices.DeleteFunc(s, func(b api.Bind) bool { return b.Term[0] == x(b.Var) }))
		}
	}
	for _, a := range all {
		for _, b := range all {
			if compare(t, a, b) != api.OrderMore {
				continue
			}
			for _, s := range substitutions {
				m, _ := apply(t, s, a)
				n, _ := apply(t, s, b)
				if how := compare(t, m, n); how != api.OrderMore {
					t.Fatalf("P6.2: %v is more than %v, with %v applied it is %d", a, b, s, how)
				}
			}
		}
	}
}

// P6.2 up to the greatest length.
func TestLongSubstitutions(t *testing.T) {
	for n := 1; n < api.MaxTerm; n++ {
		for _, last := range []int{ann, sk, x(0), x(5)} {
			if n == 1 && last == x(0) {
				continue
			}
			s := []api.Bind{{Var: 0, Term: one(n, last)}}
			for _, p := range [][2][]int{{{f, x(0)}, {x(0)}}, {{k, x(0)}, {f, x(0)}}, {{tall, f, x(0)}, {tall, x(0)}}} {
				m, _ := apply(t, s, p[0])
				l, _ := apply(t, s, p[1])
				isMore(t, "P6.2", m, l)
			}
		}
	}
}

// No call may panic, whatever the numbers: wrong symbols and codes together.
func TestWildArguments(t *testing.T) {
	c := chance(9)
	wild := []int{math.MinInt, math.MinInt + 1, -25, -24, -2, -1, 0, 1, 2, 3, 4, 5, 6, 8, 9, 10, 13, 14, 15, 16, 17, 48, math.MaxInt - 1, math.MaxInt}
	pick := func() int { return wild[c.below(len(wild))] }
	codes := func() []int {
		if c.below(2) == 0 {
			return c.expression(c.below(2) == 0, 2)
		}
		var r []int
		for range c.below(4) {
			r = append(r, pick())
		}
		return r
	}
	var seen [2]int
	for range 60000 {
		sig := symbols()
		if c.below(2) == 0 {
			sig[c.below(len(sig))] = api.Sym{Name: "w", Kind: pick(), Arity: pick(), Weight: pick()}
		}
		a, b := codes(), codes()
		how, e := order.Compare(sig, a, b)
		switch {
		case e == api.OK && how >= api.OrderLess && how <= api.OrderNone:
			seen[0]++
		case e == api.ErrOrderForm && how == 0:
			seen[1]++
		default:
			t.Fatalf("P6.1, R2: Compare(%v, %v, %v) = %d, %d", sig, a, b, how, e)
		}
	}
	if min(seen[0], seen[1]) < 2000 {
		t.Errorf("too few of a kind: %v", seen)
	}
}

func somePairs() [][2][]int {
	out := [][2][]int{
		{nil, nil}, {{x(0)}, {ann}}, {{g, bob, ann}, {g, ann, bob}}, {{f}, {ann}}, {{ann}, {rains}}, {{beyond}, {ann}}, {{ann, ann}, {ann}},
		{one(api.MaxTerm, ann), one(api.MaxTerm, bob)}, {one(api.MaxTerm+1, ann), {ann}},
		{row([]int{tall}, one(api.MaxTerm, ann)), row([]int{tall}, one(api.MaxTerm, bob))},
	}
	c := chance(21)
	for i := range 300 {
		a := c.expression(i%2 == 1, 3)
		out = append(out, [2][]int{a, c.other(a, i%2 == 1, 3)})
	}
	return out
}

func TestArgumentsUnchanged(t *testing.T) {
	for _, p := range somePairs() {
		a, b := row(p[0], some(5, -99, 99)), row(p[1], some(5, -99, 99))
		sig := append(symbols(), api.Sym{Name: "tail", Kind: -7, Arity: -7, Weight: -7})
		aBefore, bBefore, sigBefore := slices.Clone(a), slices.Clone(b), slices.Clone(sig)
		for _, n := range []int{beyond, beyond + 1} {
			order.Compare(sig[:n], a[:len(p[0])], b[:len(p[1])])
			order.Compare(sig[:n], b[:len(p[1])], a[:len(p[0])])
			order.Compare(sig[:n], a[:len(p[0])], a[:len(p[0])])
		}
		if !slices.Equal(a, aBefore) || !slices.Equal(b, bBefore) || !slices.Equal(sig, sigBefore) {
			t.Fatalf("R4: arguments were changed: %v, %v, %v", a, b, sig)
		}
	}
}

func TestSpareCapacityUnread(t *testing.T) {
	all := []int{g, ann, x(0), sk}
	refused(t, "cut short, its argument behind it", all[:2], all[:2])
	same(t, "codes behind", all[:3], []int{g, ann, x(0)})
	isMore(t, "codes behind the lighter one", []int{g, bob, x(0)}, all[:3])
	atoms := []int{rains, ann, tall}
	same(t, "codes behind an atom", atoms[:1], []int{rains})
}

// Run with -race, this also tells of calls that write what others read.
func TestCallsAtOnce(t *testing.T) {
	sig, pairs := symbols(), somePairs()[10:]
	var all sync.WaitGroup
	for range 8 {
		all.Add(1)
		go func() {
			defer all.Done()
			for range 5 {
				for _, p := range pairs {
					if how, e := order.Compare(sig, p[0], p[1]); how != expect(p[0], p[1]) || e != api.OK {
						t.Errorf("R5: at once: Compare(%v, %v) = %d, %d", p[0], p[1], how, e)
					}
				}
			}
		}()
	}
	all.Wait()
}
