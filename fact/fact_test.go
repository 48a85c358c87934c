package fact_test

import (
	"math"
	"slices"
	"strconv"
	"testing"

	"quaere/api"
	"quaere/fact"
)

// The codes of symbols().
const (
	eq = iota
	rains
	tall
	likes
	ann
	bob
	f
	g
	sk
	h
	between
	snows
	beyond // no symbol has this code
)

// symbols has predicates before and behind the functions.
func symbols() []api.Sym {
	return []api.Sym{
		eq:      {Name: "=", Kind: api.KindPred, Arity: 2, Weight: 1},
		rains:   {Name: "rains", Kind: api.KindPred, Arity: 0, Weight: 3},
		tall:    {Name: "tall", Kind: api.KindPred, Arity: 1, Weight: 2},
		likes:   {Name: "likes", Kind: api.KindPred, Arity: 2, Weight: 1},
		ann:     {Name: "ann", Kind: api.KindFun, Arity: 0, Weight: 1},
		bob:     {Name: "bob", Kind: api.KindFun, Arity: 0, Weight: 1},
		f:       {Name: "f", Kind: api.KindFun, Arity: 1, Weight: 1},
		g:       {Name: "g", Kind: api.KindSkolem, Arity: 2, Weight: 3},
		sk:      {Name: "sk", Kind: api.KindSkolem, Arity: 0, Weight: api.MaxWeight},
		h:       {Name: "h", Kind: api.KindFun, Arity: api.MaxArity, Weight: 5},
		between: {Name: "between", Kind: api.KindPred, Arity: 3, Weight: 1},
		snows:   {Name: "snows", Kind: api.KindPred, Arity: 0, Weight: api.MaxWeight},
	}
}

// x is the code of the variable v.
func x(v int) int {
	return -1 - v
}

// one is a term of n codes that ends with the code last.
func one(n, last int) []int {
	return slices.Concat(slices.Repeat([]int{f}, n-1), []int{last})
}

// wrongFacts are no facts: with variables, empty, terms, of too few or too many terms, too long, codes of nothing.
func wrongFacts() [][]int {
	return [][]int{
		{tall, x(0)}, {tall, x(api.MaxVar)}, {likes, ann, x(0)}, {likes, x(3), ann}, {eq, x(0), x(0)}, {tall, f, f, x(1)}, {between, ann, g, ann, x(0), bob},
		slices.Concat([]int{tall}, one(api.MaxTerm, x(0))),
		nil, {}, {ann}, {sk}, {f, ann}, {g, ann, bob}, {x(0)}, one(api.MaxTerm, ann), {ann, ann}, {f, ann, bob}, {ann, rains},
		{eq}, {eq, ann}, {eq, f, ann}, {eq, ann, f}, {eq, ann, ann, ann}, {tall}, {tall, f}, {tall, ann, ann}, {rains, ann}, {rains, rains},
		{between, ann, ann}, {between, ann, ann, ann, ann}, {eq, ann, rains}, {tall, tall, ann}, {tall, f, rains},
		{tall, x(api.MaxVar + 1)}, {tall, beyond}, {beyond}, {beyond, ann}, {math.MinInt}, {math.MaxInt}, {tall, math.MinInt}, {tall, math.MaxInt},
		slices.Concat([]int{tall}, one(api.MaxTerm+1, ann)), slices.Concat([]int{eq}, one(24, ann), one(25, bob)),
		slices.Repeat([]int{rains}, 1000000), slices.Repeat([]int{f}, 1000000), slices.Repeat([]int{x(0)}, 1000000),
	}
}

// wrongSignatures are not valid, though all codes below beyond are symbols in most of them.
func wrongSignatures() [][]api.Sym {
	out := [][]api.Sym{nil, {}, symbols()[1:], append(symbols(), symbols()[ann]), slices.Repeat(symbols(), 2), slices.Repeat(symbols(), 1000)}
	for _, s := range []api.Sym{
		{Name: "", Weight: 1}, {Name: "X", Weight: 1}, {Name: "abcdefghi", Weight: 1}, {Name: "z", Kind: 3, Weight: 1}, {Name: "z", Arity: api.MaxArity + 1, Weight: 1},
		{Name: "z", Arity: -1, Weight: 1}, {Name: "z"}, {Name: "z", Weight: api.MaxWeight + 1}, {Name: "z", Kind: math.MinInt, Arity: math.MaxInt, Weight: math.MinInt},
	} {
		out = append(out, append(symbols(), s))
	}
	weight := symbols()
	weight[eq].Weight = 2
	return append(out, weight)
}

// number is the Hash by exact integers: since each sum and product is taken to its remainder, it is the remainder of the number without any.
func number(a []int) int {
	var digits [api.MaxTerm + 2]int
	digits[0] = 7
	for i, code := range a {
		digits[i+1] = code + 1
	}
	power, sum := 1, 0
	for i := len(a); i >= 0; i-- {
		sum += digits[i] * power % 1009
		power = power * 31 % 1009
	}
	return sum % 1009
}

// own is the slot at which the search for a fact begins.
func own(a []int) int {
	return number(a) % api.MaxSlots
}

// family is n facts whose own slot is this one.
func family(t *testing.T, slot, n int) [][]int {
	t.Helper()
	terms := [][]int{{ann}, {bob}, {sk}, {f, ann}, {f, bob}, {f, sk}, {f, f, ann}, {f, f, bob}, {f, f, sk}, {g, ann, bob}, {g, bob, ann}, {h, ann, bob, sk}}
	var out [][]int
	for _, p := range terms {
		for _, q := range terms {
			for _, r := range terms {
				if a := slices.Concat([]int{between}, p, q, r); own(a) == slot && len(out) < n {
					out = append(out, a)
				}
			}
		}
	}
	if len(out) < n {
		t.Fatalf("only %d facts of the slot %d", len(out), slot)
	}
	return out
}

// laid is a table with these facts, whose slots are free where nothing is told.
func laid(slots map[int]int, facts ...[]int) api.Table {
	out := api.Table{Slots: slices.Repeat([]int{-1}, api.MaxSlots), Facts: facts}
	for at, held := range slots {
		out.Slots[at] = held
	}
	return out
}

// given is a table with these facts, whose slots are deleted where nothing is told.
func given(slots map[int]int, facts ...[]int) api.Table {
	out := laid(nil, facts...)
	for at := range out.Slots {
		out.Slots[at] = -2
	}
	for at, held := range slots {
		out.Slots[at] = held
	}
	return out
}

// rowFrom is a table with facts of one own slot, one slot behind the other.
func rowFrom(slot int, facts ...[]int) api.Table {
	out := laid(nil, facts...)
	for i := range facts {
		out.Slots[(slot+i)%api.MaxSlots] = i
	}
	return out
}

func equal(t, u api.Table) bool {
	return slices.Equal(t.Slots, u.Slots) && slices.EqualFunc(t.Facts, u.Facts, slices.Equal)
}

func isZero(t api.Table) bool {
	return len(t.Slots) == 0 && len(t.Facts) == 0
}

func copied(t api.Table) api.Table {
	out := api.Table{Slots: slices.Clone(t.Slots)}
	for _, a := range t.Facts {
		out.Facts = append(out.Facts, slices.Clone(a))
	}
	return out
}

// puts holds what Put answers against a table, a bool and no error.
func puts(t *testing.T, what string, table api.Table, a []int, want api.Table, wantIs bool) {
	t.Helper()
	if got, is, e := fact.Put(symbols(), table, a); !equal(got, want) || is != wantIs || e != api.OK {
		t.Errorf("P11.2 %s: Put(%v, %v) = %v, %t, %d; want %v, %t", what, table, a, got, is, e, want, wantIs)
	}
}

// cuts is puts for Cut.
func cuts(t *testing.T, what string, table api.Table, a []int, want api.Table, wantIs bool) {
	t.Helper()
	if got, is, e := fact.Cut(symbols(), table, a); !equal(got, want) || is != wantIs || e != api.OK {
		t.Errorf("P11.2 %s: Cut(%v, %v) = %v, %t, %d; want %v, %t", what, table, a, got, is, e, want, wantIs)
	}
}

func has(t *testing.T, what string, table api.Table, want bool, facts ...[]int) {
	t.Helper()
	for _, a := range facts {
		if got, e := fact.Has(symbols(), table, a); got != want || e != api.OK {
			t.Errorf("P11.2 %s: Has(%v, %v) = %t, %d", what, table, a, got, e)
		}
	}
}

// refused holds what the calls answer against ErrFactForm with nothing beside it.
func refused(t *testing.T, what string, sig []api.Sym, table api.Table, a []int) {
	t.Helper()
	if is, e := fact.Has(sig, table, a); is || e != api.ErrFactForm {
		t.Errorf("P11.2, R2 %s: Has: %t, %d", what, is, e)
	}
	if got, is, e := fact.Put(sig, table, a); !isZero(got) || is || e != api.ErrFactForm {
		t.Errorf("P11.2, R2 %s: Put: %v, %t, %d", what, got, is, e)
	}
	if got, is, e := fact.Cut(sig, table, a); !isZero(got) || is || e != api.ErrFactForm {
		t.Errorf("P11.2, R2 %s: Cut: %v, %t, %d", what, got, is, e)
	}
}

// full is a table with MaxFacts facts of one own slot, and one more such fact.
func full(t *testing.T, slot int) (api.Table, []int) {
	t.Helper()
	all := family(t, slot, api.MaxFacts+1)
	return rowFrom(slot, all[:api.MaxFacts]...), all[api.MaxFacts]
}

// P11.1.

func TestNew(t *testing.T) {
	got := fact.New()
	if len(got.Slots) != api.MaxSlots || len(got.Facts) != 0 {
		t.Fatalf("P11.1: %v", got)
	}
	for at, held := range got.Slots {
		if held != -1 {
			t.Errorf("P11.1: the slot %d holds %d", at, held)
		}
	}
	if !fact.May(symbols(), got) || !fact.May(symbols()[:1], got) {
		t.Error("P11.1: New() is not valid")
	}
	has(t, "nothing", got, false, []int{rains}, []int{tall, ann})
	for at := range got.Slots {
		got.Slots[at] = 7
	}
	if again := fact.New(); !equal(again, laid(nil)) {
		t.Errorf("R4, R5: New after a change of its result: %v", again)
	}
}

// longest are facts whose rows have just MaxTerm codes.
func longest() [][]int {
	return [][]int{
		slices.Concat([]int{tall}, one(api.MaxTerm, ann)),
		slices.Concat([]int{eq}, one(24, ann), one(24, bob)),
		slices.Concat([]int{between}, one(16, ann), one(16, bob), one(16, sk)),
		slices.Concat([]int{likes}, slices.Repeat([]int{g}, 23), slices.Repeat([]int{ann}, 25)),
	}
}

func hashes(t *testing.T, a []int, want int) {
	t.Helper()
	if got, e := fact.Hash(symbols(), a); got != want || e != api.OK {
		t.Errorf("P11.1: Hash(%v) = %d, %d; want %d", a, got, e, want)
	}
}

// Without any remainder 7 * 31 + code + 1; the first remainder is taken at two codes: 7 * 31 * 31 is more than six times 1009.
func TestHashOfShortFacts(t *testing.T) {
	hashes(t, []int{rains}, 219)
	hashes(t, []int{snows}, 229)
	hashes(t, []int{tall, ann}, (220*31+5)-6*1009)
	hashes(t, []int{tall, bob}, (220*31+6)-6*1009)
	hashes(t, []int{tall, sk}, 775)
	hashes(t, []int{eq, ann, bob}, 796)
	hashes(t, []int{eq, bob, ann}, 826)
	hashes(t, []int{likes, ann, bob}, 652)
	hashes(t, []int{between, ann, bob, sk}, 724)
}

func TestHashOfLongFacts(t *testing.T) {
	for i, want := range []int{397, 231, 213, 201} {
		hashes(t, longest()[i], want)
	}
	hashes(t, slices.Concat([]int{tall}, one(api.MaxTerm-1, ann)), 922)
}

func TestRemaindersAtTheirBounds(t *testing.T) {
	hashes(t, []int{between, f, f, ann, ann, ann}, 1008)
	hashes(t, []int{between, f, f, ann, ann, bob}, 0)
	hashes(t, []int{between, f, bob, f, f, ann, g, ann, bob}, 0)
}

// Different facts may have one Hash.
func TestOneHashOfTwoFacts(t *testing.T) {
	long := []int{between, f, ann, g, bob, ann, f, f, ann}
	hashes(t, long, 219)
	both := rowFrom(219%api.MaxSlots, []int{rains}, long)
	puts(t, "one Hash", rowFrom(219%api.MaxSlots, []int{rains}), long, both, true)
	has(t, "one Hash", both, true, []int{rains}, long)
}

func TestHashByIntegers(t *testing.T) {
	remainders := map[int]bool{}
	for slot := range api.MaxSlots {
		for _, a := range family(t, slot, 30) {
			hashes(t, a, number(a))
			remainders[number(a)] = true
		}
	}
	if len(remainders) < 500 {
		t.Errorf("only %d remainders", len(remainders))
	}
	for n := 1; n <= api.MaxTerm; n++ {
		for _, last := range []int{ann, bob, sk} {
			a := slices.Concat([]int{tall}, one(n, last))
			hashes(t, a, number(a))
		}
	}
}

// The greatest codes that there are.
func TestHashWithMaxSyms(t *testing.T) {
	sig := symbols()
	for len(sig) < api.MaxSyms {
		sig = append(sig, api.Sym{Name: "c" + strconv.Itoa(len(sig)), Kind: api.KindFun, Weight: 1})
	}
	sig[api.MaxSyms-1].Kind = api.KindPred
	a, b := []int{between, 18, 18, 18}, []int{api.MaxSyms - 1}
	if got, e := fact.Hash(sig, a); got != number(a) || e != api.OK {
		t.Errorf("P11.1: %d, %d", got, e)
	}
	if got, e := fact.Hash(sig, b); got != 7*31+20 || e != api.OK {
		t.Errorf("P11.1: %d, %d", got, e)
	}
}

func TestHashRefused(t *testing.T) {
	for _, a := range wrongFacts() {
		if got, e := fact.Hash(symbols(), a); got != 0 || e != api.ErrFactForm {
			t.Errorf("P11.1, R2: Hash of a wrong fact of %d codes: %d, %d", len(a), got, e)
		}
	}
	for i, sig := range wrongSignatures() {
		for _, a := range [][]int{{rains}, {eq, ann, ann}, {tall, x(0)}, nil} {
			if got, e := fact.Hash(sig, a); got != 0 || e != api.ErrFactForm {
				t.Errorf("P11.1, R2: Hash(%v) with the wrong signature %d: %d, %d", a, i, got, e)
			}
		}
	}
}

func may(t *testing.T, what string, table api.Table) {
	t.Helper()
	if !fact.May(symbols(), table) {
		t.Errorf("P11.1 %s: May(%v) = false", what, table)
	}
	if _, e := fact.Has(symbols(), table, []int{rains}); e != api.OK {
		t.Errorf("P11.2 %s: Has(%v): %d", what, table, e)
	}
}

func mayNot(t *testing.T, what string, table api.Table) {
	t.Helper()
	if fact.May(symbols(), table) {
		t.Errorf("P11.1 %s: May(%v) = true", what, table)
	}
	refused(t, what, symbols(), table, []int{rains})
	for _, a := range table.Facts[:min(len(table.Facts), 2)] {
		refused(t, what+", its own fact", symbols(), table, a)
	}
}

func TestMay(t *testing.T) {
	all := family(t, 30, 24)
	a, b, c := all[0], all[1], all[2]
	may(t, "empty", laid(nil))
	may(t, "empty, with an empty list", api.Table{Slots: laid(nil).Slots, Facts: [][]int{}})
	may(t, "all slots deleted", given(nil))
	may(t, "one fact", laid(map[int]int{30: 0}, a))
	may(t, "one fact, all else deleted", given(map[int]int{30: 0}, a))
	may(t, "three facts", laid(map[int]int{30: 0, 31: 1, 0: 2}, a, b, c))
	may(t, "three facts, in another order", laid(map[int]int{30: 2, 31: 0, 0: 1}, a, b, c))
	may(t, "behind deleted slots", laid(map[int]int{30: -2, 31: -2, 0: -2, 1: 0}, a))
	may(t, "behind deleted slots and a fact", laid(map[int]int{30: -2, 31: 1, 0: -2, 1: 0}, a, b))
	may(t, "a deleted slot behind", laid(map[int]int{30: 0, 31: -2}, a))
	may(t, "just before its own slot, no slot free", given(map[int]int{29: 0}, a))
	may(t, "as many facts as may be", rowFrom(30, all...))
	may(t, "the longest facts", laid(map[int]int{13: 0, 7: 1, 21: 2, 9: 3}, longest()...))
	may(t, "free slots ahead of its own slot only", laid(map[int]int{30: 0, 29: -1, 31: -1}, a))
}

// As many facts as may be, and deleted slots else: none is free.
func TestMayWithoutFreeSlots(t *testing.T) {
	table, _ := full(t, 9)
	for at, held := range table.Slots {
		if held == -1 {
			table.Slots[at] = -2
		}
	}
	may(t, "full, and no slot free", table)
	// Each fact one slot on: still none is free from its own slot on.
	table.Slots = slices.Concat(table.Slots[31:], table.Slots[:31])
	may(t, "full, and no slot free, one slot on", table)
}

func TestMayNotForSlots(t *testing.T) {
	a := family(t, 30, 1)[0]
	for _, n := range []int{0, 1, 30, 31, 33, 64, 1000000} {
		mayNot(t, "slots", api.Table{Slots: slices.Repeat([]int{-1}, n)})
		slots := slices.Repeat([]int{-1}, n)
		if n > 30 {
			slots[30] = 0
		}
		mayNot(t, "slots with a fact", api.Table{Slots: slots, Facts: [][]int{a}})
	}
	mayNot(t, "nothing", api.Table{})
	for _, held := range []int{-3, -4, -1000, math.MinInt, math.MinInt + 1} {
		for at := range api.MaxSlots {
			mayNot(t, "a number below -2", laid(map[int]int{at: held}))
			if at != 30 {
				mayNot(t, "a number below -2 beside a fact", laid(map[int]int{30: 0, at: held}, a))
			}
		}
		mayNot(t, "a number below -2 in place of the index", laid(map[int]int{30: held}, a))
	}
}

func TestMayNotForIndexes(t *testing.T) {
	all := family(t, 30, 3)
	a, b, c := all[0], all[1], all[2]
	mayNot(t, "in no slot", laid(nil, a))
	mayNot(t, "in no slot, all deleted", given(nil, a))
	mayNot(t, "the second one in no slot", laid(map[int]int{30: 0}, a, b))
	mayNot(t, "the first one in no slot", laid(map[int]int{30: 1}, a, b))
	mayNot(t, "the middle one in no slot", laid(map[int]int{30: 0, 31: 2}, a, b, c))
	mayNot(t, "one in two slots", laid(map[int]int{30: 0, 31: 0}, a))
	mayNot(t, "one in two slots, far off", laid(map[int]int{30: 0, 11: 0}, a))
	mayNot(t, "one in three slots", laid(map[int]int{30: 0, 31: 0, 0: 0}, a))
	mayNot(t, "one in all slots", rowOf(0, a))
	mayNot(t, "the first in two slots, the second in none", laid(map[int]int{30: 0, 31: 0}, a, b))
	mayNot(t, "the second in two slots, the first in none", laid(map[int]int{30: 1, 31: 1}, a, b))
	mayNot(t, "the second in two slots", laid(map[int]int{30: 0, 31: 1, 0: 1}, a, b))
	mayNot(t, "the first in two slots", laid(map[int]int{30: 0, 31: 1, 0: 0}, a, b))
	for _, held := range []int{1, 2, 23, 24, 31, 32, math.MaxInt - 1, math.MaxInt} {
		mayNot(t, "too great", laid(map[int]int{30: held}, a))
		mayNot(t, "too great, beside the right one", laid(map[int]int{30: 0, 31: held}, a))
		mayNot(t, "too great, far off", laid(map[int]int{30: 0, 5: held}, a))
		mayNot(t, "an index without facts", laid(map[int]int{30: held}))
	}
	mayNot(t, "index 0 without facts", laid(map[int]int{30: 0}))
}

// rowOf is a table with one fact and one number in all slots.
func rowOf(held int, a []int) api.Table {
	return api.Table{Slots: slices.Repeat([]int{held}, api.MaxSlots), Facts: [][]int{a}}
}

func TestMayNotForFreeSlots(t *testing.T) {
	all := family(t, 30, 3)
	a, b, c := all[0], all[1], all[2]
	for at := range api.MaxSlots {
		if at != 30 {
			mayNot(t, "in another slot than its own", laid(map[int]int{at: 0}, a))
		}
	}
	mayNot(t, "one free slot ahead, the own one", laid(map[int]int{31: 0, 30: -1}, a))
	mayNot(t, "one free slot ahead, behind a deleted one", laid(map[int]int{30: -2, 0: 0}, a))
	mayNot(t, "one free slot ahead, ahead of a deleted one", laid(map[int]int{31: -2, 0: 0}, a))
	mayNot(t, "one free slot ahead, behind a fact", laid(map[int]int{30: 0, 0: 1}, a, b))
	mayNot(t, "one free slot ahead, between facts", laid(map[int]int{30: 0, 31: 1, 1: 2}, a, b, c))
	mayNot(t, "one free slot ahead, after the last slot", laid(map[int]int{30: -2, 31: -2, 1: 0}, a))
	for at := range api.MaxSlots {
		if at != 29 {
			mayNot(t, "just before its own slot, one slot free", given(map[int]int{29: 0, at: -1}, a))
		}
		if at >= 15 && at <= 29 {
			may(t, "a free slot behind", given(map[int]int{14: 0, at: -1}, a))
		} else if at != 14 {
			mayNot(t, "a free slot ahead", given(map[int]int{14: 0, at: -1}, a))
		}
	}
}

func TestMayNotForFacts(t *testing.T) {
	all := family(t, 30, api.MaxFacts+1)
	a, b := all[0], all[1]
	mayNot(t, "too many facts", rowFrom(30, all...))
	mayNot(t, "far too many facts", api.Table{Slots: laid(map[int]int{30: 0}).Slots, Facts: slices.Repeat([][]int{a}, 1000000)})
	for _, wrong := range wrongFacts() {
		for at := range 3 {
			// In whichever slot it were, nothing else is wrong: no slot is free.
			mayNotShort(t, given(map[int]int{at * 7: 0}, wrong))
		}
		mayNotShort(t, given(map[int]int{30: 0, 31: 1}, a, wrong))
		mayNotShort(t, given(map[int]int{30: 1, 31: 0}, wrong, a))
	}
	mayNot(t, "two equal ones", laid(map[int]int{30: 0, 31: 1}, a, slices.Clone(a)))
	mayNot(t, "two equal ones, the later one first", laid(map[int]int{30: 1, 31: 0}, a, slices.Clone(a)))
	mayNot(t, "two equal ones apart", laid(map[int]int{30: 0, 31: 1, 0: 2}, a, b, slices.Clone(a)))
	mayNot(t, "two equal ones, no slot free", given(map[int]int{3: 0, 17: 1}, a, slices.Clone(a)))
	mayNot(t, "one list as two facts", laid(map[int]int{30: 0, 31: 1}, a, a))
	same := all[:api.MaxFacts]
	same[api.MaxFacts-1] = a
	mayNot(t, "the first and the last of all", rowFrom(30, same...))
}

// mayNotShort is mayNot for tables that would take long to be written down.
func mayNotShort(t *testing.T, table api.Table) {
	t.Helper()
	if fact.May(symbols(), table) {
		t.Errorf("P11.1: May = true with a wrong fact, %d facts, slots %v", len(table.Facts), table.Slots)
	}
	refused(t, "a wrong fact in the table", symbols(), table, []int{rains})
}

func TestWrongSignatures(t *testing.T) {
	a := family(t, 30, 1)[0]
	for i, sig := range wrongSignatures() {
		for _, table := range []api.Table{laid(nil), given(nil), laid(map[int]int{30: 0}, a), {}} {
			if fact.May(sig, table) {
				t.Errorf("P11.1: May = true with the wrong signature %d", i)
			}
			refused(t, "a wrong signature", sig, table, []int{rains})
			refused(t, "a wrong signature", sig, table, a)
			refused(t, "a wrong signature and a wrong fact", sig, table, []int{tall, x(0)})
			refused(t, "a wrong signature and no codes", sig, table, nil)
		}
	}
	// A table of another signature's facts.
	short := symbols()[:between]
	if fact.May(short, laid(map[int]int{30: 0}, a)) || !fact.May(short, laid(map[int]int{27: 0}, []int{rains})) {
		t.Error("P11.1: a predicate that the signature has not")
	}
	refused(t, "a fact that the signature has not", short, laid(nil), a)
}

func TestWrongFacts(t *testing.T) {
	most, _ := full(t, 30)
	for _, a := range wrongFacts() {
		for _, table := range []api.Table{laid(nil), given(nil), laid(map[int]int{27: 0}, []int{rains}), most, {}, laid(map[int]int{3: 0}, a)} {
			refused(t, "a wrong fact", symbols(), table, a)
		}
	}
}

// P11.2.

func TestPut(t *testing.T) {
	all := family(t, 30, 4)
	a, b, c, d := all[0], all[1], all[2], all[3]
	puts(t, "the first one", fact.New(), a, laid(map[int]int{30: 0}, a), true)
	puts(t, "another own slot", laid(map[int]int{30: 0}, a), []int{rains}, laid(map[int]int{30: 0, 27: 1}, a, []int{rains}), true)
	puts(t, "the same own slot", laid(map[int]int{30: 0}, a), b, laid(map[int]int{30: 0, 31: 1}, a, b), true)
	puts(t, "after the last slot the first one", laid(map[int]int{30: 0, 31: 1}, a, b), c, laid(map[int]int{30: 0, 31: 1, 0: 2}, a, b, c), true)
	puts(t, "on behind the first slot", laid(map[int]int{30: 0, 31: 1, 0: 2}, a, b, c), d, laid(map[int]int{30: 0, 31: 1, 0: 2, 1: 3}, a, b, c, d), true)
	puts(t, "the shortest one", fact.New(), []int{rains}, laid(map[int]int{27: 0}, []int{rains}), true)
	for i, at := range []int{13, 7, 21, 9} {
		puts(t, "the longest ones", fact.New(), longest()[i], laid(map[int]int{at: 0}, longest()[i]), true)
	}
	other := family(t, 31, 1)[0]
	puts(t, "its own slot taken by a fact of another one", laid(map[int]int{30: 0, 31: 1}, a, b), other, laid(map[int]int{30: 0, 31: 1, 0: 2}, a, b, other), true)
	puts(t, "between other own slots", laid(map[int]int{29: 0, 31: 1}, family(t, 29, 1)[0], other), a, laid(map[int]int{29: 0, 31: 1, 30: 2}, family(t, 29, 1)[0], other, a), true)
	puts(t, "a row without gaps", laid(map[int]int{30: 0, 31: 1}, a, other), b, laid(map[int]int{30: 0, 31: 1, 0: 2}, a, other, b), true)
}

func TestPutIntoEachSlot(t *testing.T) {
	for slot := range api.MaxSlots {
		all := family(t, slot, api.MaxFacts)
		table := fact.New()
		for i, a := range all {
			puts(t, "one behind the other", table, a, rowFrom(slot, all[:i+1]...), true)
			table = rowFrom(slot, all[:i+1]...)
			has(t, "put in", table, true, all[:i+1]...)
			has(t, "not put in", table, false, all[i+1:]...)
		}
	}
}

func TestPutTwice(t *testing.T) {
	all := family(t, 30, 3)
	a, b, c := all[0], all[1], all[2]
	for _, table := range []api.Table{
		laid(map[int]int{30: 0, 31: 1, 0: 2}, a, b, c), laid(map[int]int{30: 2, 31: 1, 0: 0}, a, b, c), given(map[int]int{3: 0, 4: 1, 29: 2}, a, b, c),
		laid(map[int]int{30: -2, 31: 0, 0: -2, 1: 1, 2: 2}, a, b, c),
	} {
		for _, one := range all {
			puts(t, "there already", table, one, table, false)
		}
	}
}

// A deleted slot is taken again, the first one from the own slot on, whatever is free behind it.
func TestPutIntoDeletedSlots(t *testing.T) {
	all := family(t, 30, 3)
	a, b, c := all[0], all[1], all[2]
	puts(t, "the own slot", laid(map[int]int{30: -2}), a, laid(map[int]int{30: 0}, a), true)
	puts(t, "the own slot, all deleted", given(nil), a, given(map[int]int{30: 0}, a), true)
	puts(t, "ahead of a fact", laid(map[int]int{30: -2, 31: 0}, a), b, laid(map[int]int{30: 1, 31: 0}, a, b), true)
	puts(t, "between facts", laid(map[int]int{30: 0, 31: -2, 0: 1}, a, b), c, laid(map[int]int{30: 0, 31: 2, 0: 1}, a, b, c), true)
	puts(t, "the first of two", laid(map[int]int{30: 0, 31: -2, 0: -2}, a), b, laid(map[int]int{30: 0, 31: 1, 0: -2}, a, b), true)
	puts(t, "the first slot of all", laid(map[int]int{30: 0, 31: 1, 0: -2, 1: -2}, a, b), c, laid(map[int]int{30: 0, 31: 1, 0: 2, 1: -2}, a, b, c), true)
	puts(t, "a free one comes first", laid(map[int]int{30: 0, 0: -2, 1: -2}, a), b, laid(map[int]int{30: 0, 31: 1, 0: -2, 1: -2}, a, b), true)
	puts(t, "none from the own slot on", laid(map[int]int{29: -2, 28: -2}), a, laid(map[int]int{28: -2, 29: -2, 30: 0}, a), true)
	puts(t, "just before the own slot", given(map[int]int{29: 0}, a), b, given(map[int]int{29: 0, 30: 1}, a, b), true)
}

func TestHas(t *testing.T) {
	all := family(t, 30, 4)
	a, b, c, d := all[0], all[1], all[2], all[3]
	has(t, "nothing", fact.New(), false, a)
	has(t, "one", laid(map[int]int{30: 0}, a), true, a)
	has(t, "another one", laid(map[int]int{30: 0}, a), false, b, []int{rains})
	has(t, "three", laid(map[int]int{30: 0, 31: 1, 0: 2}, a, b, c), true, a, b, c)
	has(t, "three, a fourth one", laid(map[int]int{30: 0, 31: 1, 0: 2}, a, b, c), false, d)
	has(t, "behind a deleted slot", laid(map[int]int{30: -2, 31: 0}, a), true, a)
	has(t, "behind deleted slots, from the last to the first", laid(map[int]int{30: -2, 31: -2, 0: -2, 1: 0}, a), true, a)
	has(t, "behind a deleted slot and a fact", laid(map[int]int{30: -2, 31: 1, 0: -2, 1: 0}, a, b), true, a, b)
	has(t, "not behind a deleted slot", laid(map[int]int{30: -2, 31: 0}, a), false, b)
	has(t, "no slot free", given(map[int]int{29: 0}, a), true, a)
	has(t, "no slot free, another one", given(map[int]int{29: 0}, a), false, b, []int{rains}, []int{snows})
	has(t, "all slots deleted", given(nil), false, a, b, []int{rains})
	most, more := full(t, 30)
	has(t, "as many as may be", most, true, most.Facts...)
	has(t, "as many as may be, one more", most, false, more, []int{rains})
	has(t, "a piece of a fact, and a longer one", laid(map[int]int{3: 0}, []int{tall, ann}), false, []int{tall, f, ann}, []int{rains})
	has(t, "the long ones", laid(map[int]int{13: 0, 7: 1, 21: 2, 9: 3}, longest()...), true, longest()...)
}

func TestFull(t *testing.T) {
	for _, slot := range []int{0, 8, 9, 30} {
		most, more := full(t, slot)
		deleted := copied(most)
		for at, held := range deleted.Slots {
			if held == -1 {
				deleted.Slots[at] = -2
			}
		}
		for _, table := range []api.Table{most, deleted} {
			for _, a := range [][]int{more, {rains}, {eq, ann, ann}} {
				if got, is, e := fact.Put(symbols(), table, a); !isZero(got) || is || e != api.ErrFactFull {
					t.Errorf("P11.2, R2: Put(%v, %v) = %v, %t, %d", table, a, got, is, e)
				}
				cuts(t, "not there", table, a, table, false)
				has(t, "not there", table, false, a)
			}
			for _, a := range table.Facts {
				puts(t, "there already", table, a, table, false)
			}
			refused(t, "a wrong fact into a full table", symbols(), table, []int{tall, x(0)})
			refused(t, "a wrong signature, a full table", symbols()[1:], table, more)
		}
		// With one fact fewer there is room, wherever it was.
		for i, a := range most.Facts {
			less, _, _ := fact.Cut(symbols(), most, a)
			got, is, e := fact.Put(symbols(), less, more)
			if !is || e != api.OK || got.Slots[(slot+i)%api.MaxSlots] != api.MaxFacts-1 || !slices.Equal(got.Facts[api.MaxFacts-1], more) || !fact.May(symbols(), got) {
				t.Errorf("P11.2: Put(%v, %v) = %v, %t, %d", less, more, got, is, e)
			}
		}
	}
}

func TestCut(t *testing.T) {
	all := family(t, 30, 4)
	a, b, c, d := all[0], all[1], all[2], all[3]
	cuts(t, "the only one", laid(map[int]int{30: 0}, a), a, laid(map[int]int{30: -2}), true)
	cuts(t, "the only one, no slot free", given(map[int]int{29: 0}, a), a, given(nil), true)
	cuts(t, "the first of two", laid(map[int]int{30: 0, 31: 1}, a, b), a, laid(map[int]int{30: -2, 31: 0}, b), true)
	cuts(t, "the last of two", laid(map[int]int{30: 0, 31: 1}, a, b), b, laid(map[int]int{30: 0, 31: -2}, a), true)
	four := laid(map[int]int{30: 0, 31: 1, 0: 2, 1: 3}, a, b, c, d)
	cuts(t, "the first", four, a, laid(map[int]int{30: -2, 31: 1, 0: 2, 1: 0}, d, b, c), true)
	cuts(t, "the second", four, b, laid(map[int]int{30: 0, 31: -2, 0: 2, 1: 1}, a, d, c), true)
	cuts(t, "the last but one", four, c, laid(map[int]int{30: 0, 31: 1, 0: -2, 1: 2}, a, b, d), true)
	cuts(t, "the last", four, d, laid(map[int]int{30: 0, 31: 1, 0: 2, 1: -2}, a, b, c), true)
	mixed := laid(map[int]int{30: 3, 31: 0, 0: 1, 1: 2}, a, b, c, d)
	cuts(t, "the last one's slot comes first", mixed, b, laid(map[int]int{30: 1, 31: 0, 0: -2, 1: 2}, a, d, c), true)
	cuts(t, "the last one, its slot comes first", mixed, d, laid(map[int]int{30: -2, 31: 0, 0: 1, 1: 2}, a, b, c), true)
	apart := laid(map[int]int{30: -2, 31: 0, 0: -2, 1: 1, 27: 2}, a, b, []int{rains})
	cuts(t, "behind deleted slots", apart, b, laid(map[int]int{30: -2, 31: 0, 0: -2, 1: -2, 27: 1}, a, []int{rains}), true)
	cuts(t, "the last one behind deleted slots", laid(map[int]int{27: 0, 30: -2, 31: 1}, []int{rains}, a), []int{rains}, laid(map[int]int{27: -2, 30: -2, 31: 0}, a), true)
}

func TestCutTwice(t *testing.T) {
	all := family(t, 30, 4)
	table := rowFrom(30, all...)
	for i, a := range all {
		once, is, e := fact.Cut(symbols(), table, a)
		if !is || e != api.OK {
			t.Fatalf("P11.2: Cut: %t, %d", is, e)
		}
		cuts(t, "cut already", once, a, once, false)
		has(t, "cut already", once, false, all[:i+1]...)
		has(t, "not cut", once, true, all[i+1:]...)
		may(t, "cut", once)
		table = once
	}
	cuts(t, "nothing", fact.New(), all[0], fact.New(), false)
	cuts(t, "all slots deleted", given(nil), all[0], given(nil), false)
	cuts(t, "not there", rowFrom(30, all[:2]...), all[2], rowFrom(30, all[:2]...), false)
	cuts(t, "not there, no slot free", given(map[int]int{29: 0}, all[1]), all[0], given(map[int]int{29: 0}, all[1]), false)
}

// However many facts there are, and wherever the one that is cut stands.
func TestCutEach(t *testing.T) {
	all := family(t, 20, api.MaxFacts)
	for n := 1; n <= api.MaxFacts; n++ {
		table := rowFrom(20, all[:n]...)
		for i := range n {
			want := rowFrom(20, all[:n]...)
			want.Slots[(20+n-1)%api.MaxSlots] = i
			want.Slots[(20+i)%api.MaxSlots] = -2
			want.Facts = slices.Clone(all[:n])
			want.Facts[i] = all[n-1]
			want.Facts = want.Facts[:n-1]
			cuts(t, "each", table, all[i], want, true)
			may(t, "each", want)
		}
	}
}

// A fact that is cut and put in again stands last among the facts, in the slot where it was or in one ahead of it.
func TestCutAndPut(t *testing.T) {
	all := family(t, 30, 3)
	a, b, c := all[0], all[1], all[2]
	three := rowFrom(30, all...)
	for i, want := range []api.Table{
		laid(map[int]int{30: 2, 31: 1, 0: 0}, c, b, a), laid(map[int]int{30: 0, 31: 2, 0: 1}, a, c, b), three,
	} {
		less, _, _ := fact.Cut(symbols(), three, all[i])
		puts(t, "again", less, all[i], want, true)
	}
	less, _, _ := fact.Cut(symbols(), three, a)
	less, _, _ = fact.Cut(symbols(), less, b)
	puts(t, "ahead of its former slot", less, b, laid(map[int]int{30: 1, 31: -2, 0: 0}, c, b), true)
}
