package lit_test

import (
	"math"
	"slices"
	"sync"
	"testing"

	"quaere/api"
	"quaere/lit"
	"quaere/order"
)

// expect is P7.2 word by word.
func expect(t *testing.T, l, m api.Lit) int {
	t.Helper()
	how, e := order.Compare(symbols(), l.Atom, m.Atom)
	if e != api.OK {
		t.Fatalf("order.Compare(%v, %v): %d", l.Atom, m.Atom, e)
	}
	if slices.Equal(l.Atom, m.Atom) && l.Neg && !m.Neg {
		return api.OrderMore
	}
	if slices.Equal(l.Atom, m.Atom) && !l.Neg && m.Neg {
		return api.OrderLess
	}
	return how
}

// expectTops is P7.3 word by word: it holds each literal against each other one.
func expectTops(t *testing.T, ls []api.Lit) []int {
	t.Helper()
	var out []int
	for i, l := range ls {
		if !slices.ContainsFunc(ls, func(m api.Lit) bool { return expect(t, m, l) == api.OrderMore }) {
			out = append(out, i)
		}
	}
	return out
}

// chance is a row of numbers by a fixed rule.
type chance uint32

func (c *chance) below(n int) int {
	*c = *c*1664525 + 1013904223
	return int(*c>>8) % n
}

// filled makes a term or an atom of a symbol, of at most so many levels and of so many variables.
func (c *chance) filled(code, levels, vars int) []int {
	out := []int{code}
	for range symbols()[code].Arity {
		out = append(out, c.term(levels, vars)...)
	}
	return out
}

func (c *chance) term(levels, vars int) []int {
	if levels <= 1 || c.below(4) == 0 {
		if vars > 0 && c.below(2) == 0 {
			return []int{x(c.below(vars))}
		}
		return []int{[]int{ann, bob, cid, sk}[c.below(4)]}
	}
	return c.filled([]int{f, f, g, h}[c.below(4)], levels-1, vars)
}

func (c *chance) literal(levels, vars int) api.Lit {
	for {
		atom := c.filled([]int{eq, likes, knows, rains, tall, between, snows}[c.below(7)], levels, vars)
		if len(atom) <= api.MaxTerm+1 {
			return api.Lit{Neg: c.below(2) == 1, Atom: atom}
		}
	}
}

// near makes a literal that differs from l by little, or not at all.
func (c *chance) near(l api.Lit, vars int) api.Lit {
	out := api.Lit{Neg: c.below(2) == 1, Atom: slices.Clone(l.Atom)}
	at := c.below(len(l.Atom))
	for _, group := range [][]int{{ann, bob, cid, sk, x(c.below(vars))}, {eq, likes, knows}, {rains, snows}} {
		if slices.Contains(group, l.Atom[at]) && c.below(2) == 0 {
			out.Atom[at] = group[c.below(len(group))]
		}
	}
	return out
}

func (c *chance) list(most, levels, vars int) []api.Lit {
	var out []api.Lit
	for range c.below(most + 1) {
		switch l := c.literal(levels, vars); {
		case len(out) == 0 || c.below(2) == 0:
			out = append(out, l)
		default:
			out = append(out, c.near(out[c.below(len(out))], vars))
		}
	}
	return out
}

func TestManyPairs(t *testing.T) {
	c := chance(7)
	var seen, opposed [4]int
	for range 60000 {
		levels, vars := c.below(4), 1+c.below(3)
		l := c.literal(levels, vars)
		m := c.near(l, vars)
		if c.below(3) == 0 {
			m = c.literal(levels, vars)
		}
		how, e := lit.Compare(symbols(), l, m)
		if want := expect(t, l, m); how != want || e != api.OK {
			t.Fatalf("P7.2: Compare(%v, %v) = %d, %d; want %d", l, m, how, e, want)
		}
		seen[how]++
		if slices.Equal(l.Atom, m.Atom) {
			opposed[how]++
		}
	}
	if slices.Min(seen[:]) < 1000 || min(opposed[api.OrderMore], opposed[api.OrderLess]) < 1000 {
		t.Errorf("too few of a result: %v, with equal atoms %v", seen, opposed)
	}
}

func TestManyWeights(t *testing.T) {
	c := chance(5)
	for range 5000 {
		l := c.literal(c.below(4), c.below(4))
		want := 0
		for _, code := range l.Atom {
			if code < 0 {
				want++
				continue
			}
			want += symbols()[code].Weight
		}
		if got, e := lit.Weight(symbols(), l); got != want || e != api.OK || !lit.May(symbols(), l) {
			t.Fatalf("P7.1: Weight(%v) = %d, %d; want %d", l, got, e, want)
		}
	}
}

func TestManyLists(t *testing.T) {
	c := chance(11)
	var tops [4]int
	for range 15000 {
		ls := c.list(9, c.below(4), 1+c.below(3))
		want := expectTops(t, ls)
		if got, e := lit.Tops(symbols(), ls); !slices.Equal(got, want) || e != api.OK {
			t.Fatalf("P7.3: Tops(%v) = %v, %d; want %v", ls, got, e, want)
		}
		tops[min(len(want), 3)]++
	}
	if slices.Min(tops[:]) < 1000 {
		t.Errorf("too few lists of a kind: %v", tops)
	}
}

// All lists of three out of a few literals: every order in which they can come.
func TestAllSmallLists(t *testing.T) {
	var few []api.Lit
	for _, atom := range [][]int{{rains}, {snows}, {tall, x(0)}, {tall, x(1)}, {eq, x(0), x(1)}, {knows, x(0), x(1)}, {eq, x(1), x(0)}} {
		few = append(few, is(atom...), not(atom...))
	}
	for _, l := range few {
		for _, m := range few {
			for _, n := range few {
				ls := []api.Lit{l, m, n}
				topsAre(t, "three", ls, expectTops(t, ls)...)
			}
		}
	}
}

func TestLongMixedLists(t *testing.T) {
	c := chance(23)
	for range 20 {
		var ls []api.Lit
		for range 200 {
			ls = append(ls, c.literal(1+c.below(3), 3))
		}
		want := expectTops(t, ls)
		topsAre(t, "of many", ls, want...)
	}
}

// No call may panic, whatever the numbers: wrong symbols and codes together.
func TestWildArguments(t *testing.T) {
	c := chance(9)
	wild := []int{math.MinInt, math.MinInt + 1, -25, -24, -2, -1, 0, 1, 2, 3, 4, 5, 8, 9, 12, 13, 14, 15, 48, math.MaxInt - 1, math.MaxInt}
	pick := func() int { return wild[c.below(len(wild))] }
	literal := func() api.Lit {
		if c.below(3) > 0 {
			return c.literal(2, 2)
		}
		var atom []int
		for range c.below(4) {
			atom = append(atom, pick())
		}
		return api.Lit{Neg: c.below(2) == 0, Atom: atom}
	}
	var seen [2]int
	for range 40000 {
		sig := symbols()
		if c.below(2) == 0 {
			sig[c.below(len(sig))] = api.Sym{Name: "w", Kind: pick(), Arity: pick(), Weight: pick()}
		}
		l, m := literal(), literal()
		seen[agree(t, sig, l, m)]++
	}
	if min(seen[0], seen[1]) < 2000 {
		t.Errorf("too few of a kind: %v", seen)
	}
}

// agree looks whether all calls take or refuse two literals alike, and answers 0 if they take them.
func agree(t *testing.T, sig []api.Sym, l, m api.Lit) int {
	t.Helper()
	may := lit.May(sig, l) && lit.May(sig, m)
	_, eL := lit.Weight(sig, l)
	_, eM := lit.Weight(sig, m)
	how, eC := lit.Compare(sig, l, m)
	tops, eT := lit.Tops(sig, []api.Lit{l, m})
	if may && eL == api.OK && eM == api.OK && eC == api.OK && eT == api.OK && how >= api.OrderLess && how <= api.OrderNone && len(tops) > 0 {
		return 0
	}
	if !may && (eL == api.ErrLitForm || eM == api.ErrLitForm) && eC == api.ErrLitForm && eT == api.ErrLitForm && how == 0 && len(tops) == 0 {
		return 1
	}
	t.Fatalf("R1, R2: %v, %v, %v: %t, %d, %d, %d %d, %v %d", sig, l, m, may, eL, eM, how, eC, tops, eT)
	return 1
}

// roomy copies a literal, with codes in the spare capacity of its Atom.
func roomy(l api.Lit) api.Lit {
	atom := append(slices.Clone(l.Atom), 99, -99, ann)
	return api.Lit{Neg: l.Neg, Atom: atom[:len(l.Atom)]}
}

func equalLits(ls, ms []api.Lit) bool {
	return slices.EqualFunc(ls, ms, func(l, m api.Lit) bool {
		return l.Neg == m.Neg && slices.Equal(l.Atom[:cap(l.Atom)], m.Atom[:cap(m.Atom)])
	})
}

// deep copies literals with all that is in the spare capacity of their Atoms.
func deep(ls []api.Lit) []api.Lit {
	var out []api.Lit
	for _, l := range ls {
		whole := slices.Clip(slices.Clone(l.Atom[:cap(l.Atom)]))
		out = append(out, api.Lit{Neg: l.Neg, Atom: whole[:len(l.Atom)]})
	}
	return out
}

func someLists() [][]api.Lit {
	out := [][]api.Lit{
		nil, {is(rains)}, {is(rains), not(rains)}, {not(rains), is(rains)}, {is()}, {is(ann), is(rains)}, {is(rains), is(tall)},
		{is(longest()[0]...), not(longest()[1]...), is(longest()[2]...)}, {is(tall, x(0)), is(tall, x(1)), not(tall, x(0)), is(knows, x(0), x(1))},
	}
	c := chance(21)
	for range 300 {
		out = append(out, c.list(8, 3, 2))
	}
	return out
}

func TestArgumentsUnchanged(t *testing.T) {
	for _, ls := range someLists() {
		n := len(ls)
		all := []api.Lit{}
		for _, l := range append(slices.Clone(ls), not(snows), is(tall, x(3)), is(99)) {
			all = append(all, roomy(l))
		}
		sig := append(symbols(), api.Sym{Name: "tail", Kind: -7, Arity: -7, Weight: -7})
		before, sigBefore := deep(all), slices.Clone(sig)
		for _, size := range []int{beyond, beyond + 1} {
			lit.Tops(sig[:size], all[:n])
			for i := range n {
				lit.May(sig[:size], all[i])
				lit.Weight(sig[:size], all[i])
				lit.Compare(sig[:size], all[i], all[n-1-i])
			}
		}
		if !equalLits(all, before) || !slices.Equal(sig, sigBefore) {
			t.Fatalf("R4: arguments were changed: %v, %v", all, sig)
		}
	}
}

// What is told hangs on no list that was handed in, and on no earlier result.
func TestResultsOfTheirOwn(t *testing.T) {
	for _, ls := range someLists() {
		first, e := lit.Tops(symbols(), ls)
		kept := slices.Clone(first)
		whole := first[:cap(first)]
		for i := range whole {
			whole[i] = -5
		}
		second, e2 := lit.Tops(symbols(), ls)
		if !slices.Equal(second, kept) || e != e2 {
			t.Fatalf("R4, R5: Tops(%v) = %v, then %v", ls, kept, second)
		}
	}
}

func TestSpareCapacityUnread(t *testing.T) {
	codes := []int{eq, ann, bob, cid}
	short, whole, long := is(codes[:2]...), is(codes[:3]...), is(codes...)
	if lit.May(symbols(), short) || !lit.May(symbols(), whole) || lit.May(symbols(), long) {
		t.Error("P7.1: codes behind an atom")
	}
	weighs(t, 3, codes[:3]...)
	answers(t, "codes behind an atom", whole, is(eq, ann, bob), api.OrderSame, api.OK)
	ls := []api.Lit{is(tall, ann), is(rains), is(snows), is()}
	topsAre(t, "literals behind the list", ls[:2], 0)
	if got, e := lit.Tops(symbols()[:tall], ls[:2]); len(got) != 0 || e != api.ErrLitForm {
		t.Errorf("P7.3: a symbol of the spare capacity: %v, %d", got, e)
	}
}

// Run with -race, this also tells of calls that write what others read.
func TestCallsAtOnce(t *testing.T) {
	sig, lists := symbols(), someLists()[7:]
	var wants [][]int
	for _, ls := range lists {
		wants = append(wants, expectTops(t, ls))
	}
	var all sync.WaitGroup
	for range 8 {
		all.Add(1)
		go func() {
			defer all.Done()
			for i, ls := range lists {
				if got, e := lit.Tops(sig, ls); !slices.Equal(got, wants[i]) || e != api.OK {
					t.Errorf("R5: at once: Tops(%v) = %v, %d", ls, got, e)
				}
			}
		}()
	}
	all.Wait()
}
