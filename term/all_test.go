package term_test

import (
	"slices"
	"strconv"
	"sync"
	"testing"

	"quaere/api"
	"quaere/term"
)

// reader reads a row by the words of the chapter, term within term.
type reader struct {
	sig  []api.Sym
	r    []int
	at   int
	ends []int
	bad  bool
}

// term reads the term at the reader's index and tells its depth.
func (d *reader) term() int {
	if d.bad || d.at == len(d.r) {
		d.bad = true
		return 0
	}
	from, code := d.at, d.r[d.at]
	d.at++
	args := 0
	switch {
	case code < -1-api.MaxVar || code >= len(d.sig):
		d.bad = true
	case code >= 0 && d.sig[code].Kind == api.KindPred:
		d.bad = true
	case code >= 0:
		args = d.sig[code].Arity
	}
	deepest := 0
	for range args {
		deepest = max(deepest, d.term())
	}
	d.ends[from] = d.at
	return deepest + 1
}

// expect works out by a reader what is to be told of r, and false if it is not a row.
func expect(sig []api.Sym, r []int) (facts, bool) {
	d := reader{sig: sig, r: r, ends: make([]int, len(r))}
	var out facts
	for d.at < len(r) && !d.bad {
		out.starts = append(out.starts, d.at)
		out.deep = max(out.deep, d.term())
	}
	if d.bad || len(r) > api.MaxTerm {
		return facts{}, false
	}
	out.ends = d.ends
	for _, code := range r {
		if code >= 0 {
			out.weight += sig[code].Weight
			continue
		}
		out.weight++
		out.vars = append(out.vars, -1-code)
	}
	slices.Sort(out.vars)
	out.vars = slices.Compact(out.vars)
	return out, true
}

func look(t *testing.T, r []int) bool {
	t.Helper()
	want, ok := expect(symbols(), r)
	what := "row of " + strconv.Itoa(len(r)) + " codes"
	if !ok {
		refused(t, what, symbols(), r)
	} else {
		n, got := tell(t, symbols(), r)
		compare(t, what, n, got, want)
	}
	if t.Failed() {
		t.Fatalf("at the row %v", r)
	}
	return ok
}

// Every list of up to five codes, of one code for each case that a code can be.
func TestAllShortLists(t *testing.T) {
	codes := []int{x(api.MaxVar + 1), x(api.MaxVar), x(0), likes, ann, f, sk2, h, beyond}
	lists := [][]int{nil}
	rows := 0
	for range 6 {
		var longer [][]int
		for _, r := range lists {
			if look(t, r) {
				rows++
			}
			if len(r) == 5 {
				continue
			}
			for _, code := range codes {
				longer = append(longer, row(r, []int{code}))
			}
		}
		lists = longer
	}
	if rows < 1000 {
		t.Errorf("only %d of the lists are rows", rows)
	}
}

// chance is a row of numbers by a fixed rule.
type chance uint32

func (c *chance) below(n int) int {
	*c = *c*1664525 + 1013904223
	return int(*c>>8) % n
}

// term makes a term of at most so many levels.
func (c *chance) term(levels int) []int {
	if levels == 1 || c.below(4) == 0 {
		return []int{x(c.below(api.MaxVar + 1))}
	}
	code := ann + c.below(sk3-ann+1)
	out := []int{code}
	for range symbols()[code].Arity {
		out = append(out, c.term(levels-1)...)
	}
	return out
}

// Rows of up to MaxTerm codes and more, whole, with one code replaced, and with the end cut off.
func TestManyLongLists(t *testing.T) {
	c := chance(7)
	rows, long := 0, 0
	for range 5000 {
		var r []int
		for range 1 + c.below(6) {
			r = append(r, c.term(1+c.below(7))...)
		}
		if look(t, r) {
			rows++
		}
		if len(r) > api.MaxTerm {
			long++
		}
		look(t, r[:c.below(len(r))])
		r[c.below(len(r))] = c.below(beyond+api.MaxVar+3) - api.MaxVar - 2
		look(t, r)
	}
	if rows < 1000 || long < 100 {
		t.Errorf("only %d of the lists are rows, %d too long", rows, long)
	}
}

// callAll calls every function and overwrites the lists that it gets, spare capacity included: what shares their memory would change.
func callAll(sig []api.Sym, r []int) {
	term.Row(sig, r)
	term.Weight(sig, r)
	term.Deep(sig, r)
	for at := -1; at <= len(r); at++ {
		term.End(sig, r, at)
	}
	starts, _ := term.Starts(sig, r)
	vars, _ := term.Vars(sig, r)
	for _, list := range [][]int{starts[:cap(starts)], vars[:cap(vars)]} {
		for i := range list {
			list[i] = -777
		}
	}
}

func TestArgumentsUnchanged(t *testing.T) {
	for i, r := range [][]int{nil, {x(1)}, {ann}, {h, x(3), f, x(0), x(3)}, some(api.MaxTerm, x(2)), {f}, {likes}, some(api.MaxTerm+1, ann)} {
		codes := row(r, some(5, -99, 99))
		syms := append(symbols(), api.Sym{Name: "tail", Kind: -7, Arity: -7, Weight: -7}, api.Sym{})
		codesBefore, symsBefore := slices.Clone(codes), slices.Clone(syms)
		callAll(syms[:beyond], codes[:len(r)])
		callAll(syms, codes[:len(r)])
		if !slices.Equal(codes, codesBefore) || !slices.Equal(syms, symsBefore) {
			t.Errorf("R4: arguments %d were changed: %v, %v", i, codes, syms)
		}
	}
}

func TestSpareCapacityUnread(t *testing.T) {
	codes := []int{g, ann, x(0), x(5), likes}
	n, got := tell(t, symbols(), codes[:3])
	compare(t, "with codes behind it", n, got, facts{[]int{0}, []int{3, 2, 3}, []int{0}, 8, 2})
	refused(t, "cut short, its argument behind it", symbols(), codes[:2])
}

func TestResultsApart(t *testing.T) {
	sig, r := symbols(), []int{f, x(2), x(1)}
	starts, _ := term.Starts(sig, r)
	vars, _ := term.Vars(sig, r)
	callAll(sig, r)
	for i := range r {
		r[i] = -555
	}
	clear(sig)
	if !slices.Equal(starts, []int{0, 2}) || !slices.Equal(vars, []int{1, 2}) {
		t.Errorf("R4: results share memory with arguments or with each other: %v, %v", starts, vars)
	}
}

// Run with -race, this also tells of calls that write what others read.
func TestCallsAtOnce(t *testing.T) {
	sig, r := symbols(), []int{h, x(3), f, x(0), x(3), ann}
	want, _ := expect(sig, r)
	var all sync.WaitGroup
	for range 8 {
		all.Add(1)
		go func() {
			defer all.Done()
			for range 100 {
				n, got := tell(t, sig, r)
				compare(t, "R5: calls at once", n, got, want)
				callAll(sig, r)
			}
		}()
	}
	all.Wait()
}
