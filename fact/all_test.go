package fact_test

import (
	"fmt"
	"math"
	"slices"
	"sync"
	"testing"
	"time"

	"quaere/api"
	"quaere/fact"
	"quaere/lit"
	"quaere/sign"
)

// chance is a row of numbers by a fixed rule.
type chance uint32

func (c *chance) below(n int) int {
	*c = *c*1664525 + 1013904223
	return int(*c>>8) % n
}

// term makes a term without variables, of at most so many levels.
func (c *chance) term(levels int) []int {
	if levels <= 1 || c.below(3) == 0 {
		return []int{[]int{ann, bob, sk}[c.below(3)]}
	}
	return c.filled([]int{f, f, g, h}[c.below(4)], levels-1)
}

// filled makes a term or an atom of a symbol.
func (c *chance) filled(code, levels int) []int {
	out := []int{code}
	for range symbols()[code].Arity {
		out = append(out, c.term(levels)...)
	}
	return out
}

// some makes n different facts.
func (c *chance) some(n int) [][]int {
	var out [][]int
	for len(out) < n {
		a := c.filled([]int{eq, rains, tall, likes, between, snows}[c.below(6)], 1+c.below(3))
		if len(a) <= api.MaxTerm+1 && !slices.ContainsFunc(out, func(b []int) bool { return slices.Equal(a, b) }) {
			out = append(out, a)
		}
	}
	return out
}

// isFact is the chapter's word, of a valid signature: an atom, none of whose codes is negative.
func isFact(sig []api.Sym, a []int) bool {
	return lit.May(sig, api.Lit{Atom: a}) && !slices.ContainsFunc(a, func(code int) bool { return code < 0 })
}

// isTable is the chapter's paragraph on valid tables, sentence by sentence.
func isTable(sig []api.Sym, t api.Table) bool {
	if len(t.Slots) != api.MaxSlots || len(t.Facts) > api.MaxFacts {
		return false
	}
	for i, a := range t.Facts {
		if !isFact(sig, a) {
			return false
		}
		for _, b := range t.Facts[:i] {
			if slices.Equal(a, b) {
				return false
			}
		}
	}
	slots := map[int][]int{}
	for at, held := range t.Slots {
		slots[held] = append(slots[held], at)
	}
	delete(slots, -1)
	delete(slots, -2)
	for i, a := range t.Facts {
		if len(slots[i]) != 1 {
			return false
		}
		for at := own(a); at != slots[i][0]; at = (at + 1) % api.MaxSlots {
			if t.Slots[at] == -1 {
				return false
			}
		}
		delete(slots, i)
	}
	return len(slots) == 0
}

// after is the table that Put or Cut makes by the chapter's words, and whether a was put in or cut; what is full is not asked here.
func after(t api.Table, cut bool, a []int) (api.Table, bool) {
	out := copied(t)
	i := slices.IndexFunc(t.Facts, func(b []int) bool { return slices.Equal(a, b) })
	if cut == (i < 0) {
		return out, false
	}
	if !cut {
		at := own(a)
		for out.Slots[at] != -1 && out.Slots[at] != -2 {
			at = (at + 1) % api.MaxSlots
		}
		out.Slots[at] = len(out.Facts)
		out.Facts = append(out.Facts, a)
		return out, true
	}
	last := len(out.Facts) - 1
	out.Slots[slices.Index(out.Slots, i)] = -2
	if at := slices.Index(out.Slots, last); at >= 0 {
		out.Slots[at] = i
	}
	out.Facts[i] = out.Facts[last]
	out.Facts = out.Facts[:last]
	return out, true
}

// makes does one call of Put or Cut, holds it against the plain reading, and answers the table behind it.
func makes(t *testing.T, table api.Table, cut bool, a []int) api.Table {
	t.Helper()
	want, wantIs := after(table, cut, a)
	call := fact.Put
	if cut {
		call = fact.Cut
	}
	got, is, e := call(symbols(), table, a)
	if !cut && wantIs && len(table.Facts) == api.MaxFacts {
		if !isZero(got) || is || e != api.ErrFactFull {
			t.Fatalf("P11.2: Put(%v, %v) = %v, %t, %d", table, a, got, is, e)
		}
		return table
	}
	if !equal(got, want) || is != wantIs || e != api.OK {
		t.Fatalf("P11.2: cut %t of %v in %v: %v, %t, %d; want %v, %t", cut, a, table, got, is, e, want, wantIs)
	}
	if !isTable(symbols(), got) || !fact.May(symbols(), got) {
		t.Fatalf("P11.3: cut %t of %v in %v: %v is not valid", cut, a, table, got)
	}
	return got
}

// P11.3: long rows of Put and Cut, against a set.
func TestSet(t *testing.T) {
	c := chance(3)
	var counts [2]int
	for round := range 40 {
		// Every other time few own slots, so that most facts are not in their own one.
		all := c.some(40)
		if round%2 == 0 {
			all = slices.Concat(family(t, c.below(api.MaxSlots), 15), family(t, c.below(api.MaxSlots), 15), family(t, 31, 5))
		}
		table, set := fact.New(), map[string]bool{}
		for range 400 {
			a := all[c.below(len(all))]
			cut := c.below(5) >= 3
			switch {
			case cut:
				delete(set, fmt.Sprint(a))
			case len(table.Facts) < api.MaxFacts:
				set[fmt.Sprint(a)] = true
			}
			table = makes(t, table, cut, a)
			if len(table.Facts) != len(set) {
				t.Fatalf("P11.3: %d facts, not %d", len(table.Facts), len(set))
			}
			if len(table.Facts) == api.MaxFacts {
				counts[0]++
			}
			if !slices.Contains(table.Slots, -1) {
				counts[1]++
			}
		}
		for _, a := range all {
			has(t, "after a long row", table, set[fmt.Sprint(a)], a)
		}
	}
	if slices.Min(counts[:]) < 300 {
		t.Errorf("too few full tables, or without a free slot: %v", counts)
	}
}

// What is in a table hangs on which facts were put in and cut, not on their order.
func TestOrderDoesNotCount(t *testing.T) {
	c := chance(5)
	for range 50 {
		all := slices.Concat(c.some(10), family(t, c.below(api.MaxSlots), 10))
		all = slices.CompactFunc(all, slices.Equal)
		in, out := all[:15], all[10:15]
		want := map[string]int{}
		for _, a := range all[:10] {
			want[fmt.Sprint(a)]++
		}
		for range 3 {
			table := fact.New()
			for _, a := range shuffled(&c, in) {
				table = makes(t, table, false, a)
			}
			for _, a := range shuffled(&c, out) {
				table = makes(t, table, true, a)
			}
			got := map[string]int{}
			for _, a := range table.Facts {
				got[fmt.Sprint(a)]++
			}
			if fmt.Sprint(got) != fmt.Sprint(want) {
				t.Fatalf("P11.3: %v, not %v", got, want)
			}
		}
	}
}

func shuffled(c *chance, list [][]int) [][]int {
	out := slices.Clone(list)
	for i := range out {
		j := c.below(i + 1)
		out[i], out[j] = out[j], out[i]
	}
	return out
}

// All rows of up to six calls on three facts, two of one own slot and the last one of the slot behind it.
func TestAllShortRows(t *testing.T) {
	all := [][]int{family(t, 31, 2)[0], family(t, 31, 2)[1], family(t, 0, 1)[0]}
	tables := []api.Table{fact.New(), given(nil), given(map[int]int{15: -1})}
	for range 6 {
		var next []api.Table
		for _, table := range tables {
			for i := range 6 {
				then := makes(t, table, i >= 3, all[i%3])
				if !slices.ContainsFunc(next, func(u api.Table) bool { return equal(then, u) }) {
					next = append(next, then)
				}
			}
		}
		tables = next
	}
	if len(tables) < 50 {
		t.Errorf("only %d tables", len(tables))
	}
}

// grown makes a table by a row of calls.
func (c *chance) grown(t *testing.T) api.Table {
	table := fact.New()
	all := slices.Concat(c.some(15), family(t, c.below(api.MaxSlots), 15))
	for range c.below(60) {
		table = makes(t, table, c.below(3) == 0, all[c.below(len(all))])
	}
	return table
}

// decided holds May and the errors of the other calls against the plain reading.
func decided(t *testing.T, sig []api.Sym, table api.Table, a []int) bool {
	t.Helper()
	valid := sign.May(sig) && isTable(sig, table)
	if fact.May(sig, table) != valid {
		t.Fatalf("P11.1: May(%v, %v) = %t", sig, table, !valid)
	}
	fine := valid && isFact(sig, a)
	is, e := fact.Has(sig, table, a)
	after1, is1, e1 := fact.Put(sig, table, a)
	after2, is2, e2 := fact.Cut(sig, table, a)
	if !fine {
		if is || is1 || is2 || !isZero(after1) || !isZero(after2) || e != api.ErrFactForm || e1 != e || e2 != e {
			t.Fatalf("P11.2, R2: %v, %v: %t, %d; %v, %t, %d; %v, %t, %d", table, a, is, e, after1, is1, e1, after2, is2, e2)
		}
		return false
	}
	full := !is && len(table.Facts) == api.MaxFacts
	if e != api.OK || e2 != api.OK || is2 != is || full != (e1 == api.ErrFactFull) || !full && (e1 != api.OK || is1 == is) {
		t.Fatalf("P11.2: %v, %v: %t, %d; %t, %d; %t, %d", table, a, is, e, is1, e1, is2, e2)
	}
	return true
}

// Tables in which one number, or two, are others than they were: some are valid still.
func TestSpoiledTables(t *testing.T) {
	c := chance(7)
	var seen [2]int
	count := func(fine bool) {
		if fine {
			seen[0]++
		} else {
			seen[1]++
		}
	}
	for range 60 {
		table := c.grown(t)
		a := c.some(1)[0]
		for at, was := range table.Slots {
			for _, held := range []int{-3, -2, -1, 0, 1, len(table.Facts) - 1, len(table.Facts), 24, math.MaxInt, math.MinInt} {
				table.Slots[at] = held
				count(decided(t, symbols(), table, a))
			}
			table.Slots[at] = was
			other := c.below(api.MaxSlots)
			table.Slots[at], table.Slots[other] = table.Slots[other], table.Slots[at]
			count(decided(t, symbols(), table, a))
			table.Slots[at], table.Slots[other] = table.Slots[other], table.Slots[at]
		}
		for i, b := range table.Facts {
			table.Facts[i] = slices.Concat(b, nil)
			table.Facts[i][len(b)-1] = []int{ann, bob, sk, x(0), rains, f, beyond}[c.below(7)]
			count(decided(t, symbols(), table, a))
			table.Facts[i] = table.Facts[c.below(len(table.Facts))]
			count(decided(t, symbols(), table, a))
			table.Facts[i] = b
		}
	}
	if slices.Min(seen[:]) < 2500 {
		t.Errorf("too few of a kind: %v", seen)
	}
}

// No call may panic, whatever the numbers: wrong symbols, codes, slots and sizes together.
func TestWildArguments(t *testing.T) {
	c := chance(9)
	wild := []int{math.MinInt, math.MinInt + 1, -25, -24, -3, -2, -1, 0, 1, 2, 3, 4, 5, 8, 9, 10, 11, 23, 24, 31, 32, 48, math.MaxInt - 1, math.MaxInt}
	pick := func() int { return wild[c.below(len(wild))] }
	codes := func() []int {
		var out []int
		for range c.below(5) {
			out = append(out, pick())
		}
		return out
	}
	var seen [2]int
	for range 20000 {
		sig, table, a := symbols(), c.wildTable(t), c.some(1)[0]
		switch c.below(6) {
		case 0:
			sig[c.below(len(sig))] = api.Sym{Name: "w", Kind: pick(), Arity: pick(), Weight: pick()}
		case 1:
			a = codes()
		case 2:
			table.Facts = append(table.Facts, codes())
		case 3:
			table.Slots = append(table.Slots[:c.below(len(table.Slots))], codes()...)
		case 4:
			table.Slots[c.below(len(table.Slots))] = pick()
		}
		if decided(t, sig, table, a) {
			seen[0]++
		} else {
			seen[1]++
		}
		if got, e := fact.Hash(sig, a); isFact(sig, a) != (e == api.OK) || e != api.OK && (got != 0 || e != api.ErrFactForm) {
			t.Fatalf("P11.1, R2: Hash(%v) = %d, %d", a, got, e)
		}
	}
	if slices.Min(seen[:]) < 2000 {
		t.Errorf("too few of a kind: %v", seen)
	}
}

// wildTable makes a small valid table.
func (c *chance) wildTable(t *testing.T) api.Table {
	table := fact.New()
	if c.below(2) == 0 {
		table = given(nil)
	}
	for _, a := range c.some(c.below(4)) {
		table = makes(t, table, false, a)
	}
	return table
}

// greatest is a table whose facts have one own slot and are as long as may be, without a free slot, and one more such fact.
func greatest() (api.Table, []int) {
	c := chance(11)
	var all [][]int
	for len(all) < api.MaxFacts+1 {
		a := slices.Concat([]int{likes}, slices.Repeat([]int{g}, 23))
		for range 25 {
			a = append(a, c.term(1)...)
		}
		if own(a) == 30 {
			all = append(all, a)
		}
	}
	table := rowFrom(30, all[:api.MaxFacts]...)
	for at, held := range table.Slots {
		if held == -1 {
			table.Slots[at] = -2
		}
	}
	return table, all[api.MaxFacts]
}

func TestTime(t *testing.T) {
	table, more := greatest()
	last := table.Facts[api.MaxFacts-1]
	begin := time.Now()
	for range 3000 {
		if is, e := fact.Has(symbols(), table, more); is || e != api.OK {
			t.Fatalf("P11.2: Has: %t, %d", is, e)
		}
		if _, is, e := fact.Put(symbols(), table, more); is || e != api.ErrFactFull {
			t.Fatalf("P11.2: Put: %t, %d", is, e)
		}
		if _, is, e := fact.Cut(symbols(), table, last); !is || e != api.OK {
			t.Fatalf("P11.2: Cut: %t, %d", is, e)
		}
	}
	if spent := time.Since(begin); spent > 30*time.Second {
		t.Errorf("R1: 9000 calls took %v", spent)
	}
}

// What is too great is refused without being gone through.
func TestTimeOfHugeArguments(t *testing.T) {
	long := slices.Repeat([]int{f}, 1<<22)
	tables := []api.Table{
		{Slots: slices.Repeat([]int{-1}, 1<<22)}, {Slots: laid(nil).Slots, Facts: slices.Repeat([][]int{long}, 1<<18)},
		{Slots: laid(nil).Slots, Facts: slices.Repeat([][]int{long}, api.MaxFacts)},
	}
	sig := slices.Repeat(symbols(), 1<<14)
	begin := time.Now()
	for range 200 {
		for _, table := range tables {
			refused(t, "a huge table", symbols(), table, []int{rains})
			refused(t, "a huge table and a huge fact", symbols(), table, long)
		}
		refused(t, "a huge fact", symbols(), laid(nil), long)
		refused(t, "a huge signature", sig, laid(nil), []int{rains})
	}
	if spent := time.Since(begin); spent > 20*time.Second {
		t.Errorf("R1: refusals of huge arguments took %v", spent)
	}
}

// spare copies a list, with something in its spare capacity.
func spare(r []int) []int {
	return append(slices.Clone(r), 99, -99, 0, 5)[:len(r)]
}

// roomy copies a table, with something in the spare capacity of each of its lists.
func roomy(t api.Table) api.Table {
	out := api.Table{Slots: spare(t.Slots)}
	for _, a := range t.Facts {
		out.Facts = append(out.Facts, spare(a))
	}
	out.Facts = append(out.Facts, []int{rains}, nil, []int{99})[:len(t.Facts)]
	return out
}

// everything writes down a table with what is in the spare capacity of all its lists.
func everything(t api.Table) string {
	out := fmt.Sprint(len(t.Slots), len(t.Facts), t.Slots[:cap(t.Slots)])
	for _, a := range t.Facts[:cap(t.Facts)] {
		out += fmt.Sprint(len(a), a[:cap(a)])
	}
	return out
}

// overwrite changes all that a list holds, its spare capacity included.
func overwrite(r []int) {
	for i := range r[:cap(r)] {
		r[:cap(r)][i] = -55
	}
}

// someTables are valid tables, empty, full and between, with a fact of each and one that may not be there.
func someTables(t *testing.T) ([]api.Table, [][][]int) {
	c := chance(21)
	most, more := full(t, 30)
	tables := []api.Table{fact.New(), given(nil), most, laid(map[int]int{27: 0}, []int{rains})}
	for range 60 {
		tables = append(tables, c.grown(t))
	}
	var facts [][][]int
	for _, table := range tables {
		few := [][]int{more, {rains}, c.some(1)[0]}
		if n := len(table.Facts); n > 0 {
			few = append(few, table.Facts[0], table.Facts[n/2], table.Facts[n-1])
		}
		facts = append(facts, few)
	}
	return tables, facts
}

// The calls neither change their arguments nor see what is in their spare capacity.
func TestArgumentsUnchanged(t *testing.T) {
	tables, facts := someTables(t)
	for i, table := range tables {
		for _, a := range append(facts[i], []int{tall, x(0)}, nil) {
			sig := append(symbols(), api.Sym{Name: "tail", Kind: -7, Arity: -7, Weight: -7})
			u, b := roomy(table), spare(a)
			beforeU, beforeB, beforeSig := everything(u), fmt.Sprint(b[:cap(b)]), slices.Clone(sig)
			for _, cut := range []bool{false, true} {
				call := fact.Put
				if cut {
					call = fact.Cut
				}
				want, wantIs, e := call(symbols(), table, a)
				got, is, f := call(sig[:beyond], u, b)
				if !equal(got, want) || is != wantIs || e != f {
					t.Fatalf("R4, R5: %v, %v: %v, %t, %d; with spare capacity %v, %t, %d", table, a, want, wantIs, e, got, is, f)
				}
			}
			fact.Has(sig[:beyond], u, b)
			fact.Hash(sig[:beyond], b)
			if !fact.May(sig[:beyond], u) || fact.May(sig, u) {
				t.Fatal("R4: May sees the spare capacity of a signature")
			}
			if everything(u) != beforeU || fmt.Sprint(b[:cap(b)]) != beforeB || !slices.Equal(sig, beforeSig) {
				t.Fatalf("R4: arguments were changed: %v, %v", u, b)
			}
		}
	}
}

// lists are all lists of numbers of a table.
func lists(t api.Table) [][]int {
	return append(slices.Clone(t.Facts[:cap(t.Facts)]), t.Slots)
}

// What is done to a result changes no argument and no other list of the result.
func TestResultsOfTheirOwn(t *testing.T) {
	tables, facts := someTables(t)
	for i, table := range tables {
		for _, a := range facts[i] {
			for _, call := range []func([]api.Sym, api.Table, []int) (api.Table, bool, api.Errno){fact.Put, fact.Cut} {
				u, b := copied(table), slices.Clone(a)
				before := everything(u)
				first, is, e := call(symbols(), u, b)
				kept := copied(first)
				for j, list := range lists(first) {
					overwrite(list)
					for k, other := range lists(first)[j+1:] {
						if slices.Contains(other, -55) {
							t.Fatalf("R4: the lists %d and %d of a result share memory: %v, %v", j, j+1+k, table, a)
						}
					}
				}
				for j := range first.Facts[:cap(first.Facts)] {
					first.Facts[:cap(first.Facts)][j] = nil
				}
				again, isAgain, f := call(symbols(), u, b)
				if everything(u) != before || !slices.Equal(a, b) || !equal(again, kept) || is != isAgain || e != f {
					t.Fatalf("R4, R5: %v, %v: %v, then %v", table, a, kept, again)
				}
			}
		}
	}
}

// What is done to the arguments afterwards changes no result.
func TestArgumentsNotKept(t *testing.T) {
	tables, facts := someTables(t)
	for i, table := range tables {
		for _, a := range facts[i] {
			for _, call := range []func([]api.Sym, api.Table, []int) (api.Table, bool, api.Errno){fact.Put, fact.Cut} {
				u, b := roomy(table), spare(a)
				got, _, _ := call(symbols(), u, b)
				kept := copied(got)
				for _, list := range append(lists(u), b) {
					overwrite(list)
				}
				for j := range u.Facts[:cap(u.Facts)] {
					u.Facts[:cap(u.Facts)][j] = nil
				}
				if !equal(got, kept) {
					t.Fatalf("R4: a result changes with the arguments: %v, %v", table, a)
				}
			}
		}
	}
}

// One list may be given in several places: as a fact of the table and as the fact that is asked for, and pieces of one list as all facts.
func TestSharedArguments(t *testing.T) {
	tables, _ := someTables(t)
	for _, table := range tables {
		whole := slices.Concat(table.Facts...)
		u := api.Table{Slots: slices.Clone(table.Slots)}
		from := 0
		for _, a := range table.Facts {
			u.Facts = append(u.Facts, whole[from:from+len(a)])
			from += len(a)
		}
		before := slices.Clone(whole)
		for _, a := range u.Facts {
			puts(t, "its own list", u, a, table, false)
			want, _ := after(table, true, a)
			cuts(t, "its own list", u, a, want, true)
		}
		if !slices.Equal(whole, before) {
			t.Fatalf("R4: %v, not %v", whole, before)
		}
	}
}

// Run with -race, this also tells of calls that write what others read.
func TestCallsAtOnce(t *testing.T) {
	tables, facts := someTables(t)
	sig := symbols()
	var joined sync.WaitGroup
	for range 8 {
		joined.Add(1)
		go func() {
			defer joined.Done()
			for i, table := range tables {
				for _, a := range facts[i] {
					want, wantIs := after(table, true, a)
					got, is, e := fact.Cut(sig, table, a)
					if !equal(got, want) || is != wantIs || e != api.OK {
						t.Errorf("R5: at once: Cut(%v, %v) = %v, %t, %d", table, a, got, is, e)
					}
					want, wantIs = after(table, false, a)
					got, is, e = fact.Put(sig, table, a)
					if len(want.Facts) <= api.MaxFacts && (!equal(got, want) || is != wantIs || e != api.OK) {
						t.Errorf("R5: at once: Put(%v, %v) = %v, %t, %d", table, a, got, is, e)
					}
					if n, e := fact.Hash(sig, a); n != number(a) || e != api.OK {
						t.Errorf("R5: at once: Hash(%v) = %d, %d", a, n, e)
					}
					if empty := fact.New(); !fact.May(sig, table) || !equal(empty, laid(nil)) {
						t.Errorf("R5: at once: May(%v) = false, or New() = %v", table, empty)
					}
				}
			}
		}()
	}
	joined.Wait()
}
