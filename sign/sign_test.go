package sign_test

import (
	"math"
	"slices"
	"strconv"
	"strings"
	"sync"
	"testing"

	"quaere/api"
	"quaere/sign"
)

func equality() api.Sym {
	return api.Sym{Name: "=", Kind: api.KindPred, Arity: 2, Weight: 1}
}

// family is a small valid signature with a symbol of each kind.
func family() []api.Sym {
	return []api.Sym{
		equality(),
		{Name: "parent", Kind: api.KindPred, Arity: 2, Weight: 1},
		{Name: "adam", Kind: api.KindFun, Arity: 0, Weight: 1},
		{Name: "sk0", Kind: api.KindSkolem, Arity: 1, Weight: 2},
	}
}

// sized is a valid signature with n symbols.
func sized(n int) []api.Sym {
	sig := []api.Sym{equality()}
	for len(sig) < n {
		sig = append(sig, api.Sym{Name: "s" + strconv.Itoa(len(sig)), Kind: api.KindFun, Weight: 1})
	}
	return sig
}

type symCase struct {
	what  string
	s     api.Sym
	valid bool
}

func fieldCases() []symCase {
	return []symCase{
		{"predicate", api.Sym{Name: "b", Kind: api.KindPred, Weight: 1}, true},
		{"function", api.Sym{Name: "b", Kind: api.KindFun, Weight: 1}, true},
		{"skolem", api.Sym{Name: "b", Kind: api.KindSkolem, Weight: 1}, true},
		{"kind below", api.Sym{Name: "b", Kind: -1, Weight: 1}, false},
		{"kind above", api.Sym{Name: "b", Kind: 3, Weight: 1}, false},
		{"least kind", api.Sym{Name: "b", Kind: math.MinInt, Weight: 1}, false},
		{"greatest kind", api.Sym{Name: "b", Kind: math.MaxInt, Weight: 1}, false},
		{"arity 0", api.Sym{Name: "b", Arity: 0, Weight: 1}, true},
		{"arity at most", api.Sym{Name: "b", Arity: api.MaxArity, Weight: 1}, true},
		{"arity below", api.Sym{Name: "b", Arity: -1, Weight: 1}, false},
		{"arity above", api.Sym{Name: "b", Arity: api.MaxArity + 1, Weight: 1}, false},
		{"least arity", api.Sym{Name: "b", Arity: math.MinInt, Weight: 1}, false},
		{"greatest arity", api.Sym{Name: "b", Arity: math.MaxInt, Weight: 1}, false},
		{"weight 1", api.Sym{Name: "b", Weight: 1}, true},
		{"weight at most", api.Sym{Name: "b", Weight: api.MaxWeight}, true},
		{"weight 0", api.Sym{Name: "b", Weight: 0}, false},
		{"weight below", api.Sym{Name: "b", Weight: -1}, false},
		{"weight above", api.Sym{Name: "b", Weight: api.MaxWeight + 1}, false},
		{"least weight", api.Sym{Name: "b", Weight: math.MinInt}, false},
		{"greatest weight", api.Sym{Name: "b", Weight: math.MaxInt}, false},
		{"equality once more", equality(), false},
		{"zero symbol", api.Sym{}, false},
	}
}

func nameCases() []symCase {
	var out []symCase
	add := func(name string, valid bool) {
		out = append(out, symCase{strconv.Quote(name), api.Sym{Name: name, Weight: 1}, valid})
	}
	add("", false)
	for n := 1; n <= api.MaxName+2; n++ {
		add(strings.Repeat("q", n), n <= api.MaxName)
		add("q"+strings.Repeat("7", n-1), n <= api.MaxName)
	}
	add(strings.Repeat("q", 100000), false)
	add("caf\u00e9", false)
	add("\u00e9a", false)
	for c := 0; c < 256; c++ {
		b := byte(c)
		letter := b >= 'a' && b <= 'z'
		digit := b >= '0' && b <= '9'
		add(string([]byte{b}), letter)
		add(string([]byte{b, 'q'}), letter)
		add(string([]byte{'q', b}), letter || digit)
		add(string([]byte{'q', b, 'q'}), letter || digit)
		add(string([]byte{'q', '1', '2', '3', '4', '5', '6', b}), letter || digit)
	}
	return out
}

// P1.1 and P1.3 share what a valid symbol is.
func TestValidSymbols(t *testing.T) {
	for _, c := range slices.Concat(fieldCases(), nameCases()) {
		last := append(family(), c.s)
		if sign.May(last) != c.valid {
			t.Errorf("P1.1: %s as the last symbol: %t", c.what, !c.valid)
		}
		inner := slices.Insert(family(), 1, c.s)
		if sign.May(inner) != c.valid {
			t.Errorf("P1.1: %s as the second symbol: %t", c.what, !c.valid)
		}
		got, e := sign.Add(family(), c.s)
		if c.valid && (e != api.OK || !slices.Equal(got, last)) {
			t.Errorf("P1.3: %s: %v, %d", c.what, got, e)
		}
		if !c.valid && (e != api.ErrSignForm || len(got) != 0) {
			t.Errorf("P1.3: %s: %v, %d", c.what, got, e)
		}
	}
}

func TestMayFirstSymbol(t *testing.T) {
	if !sign.May([]api.Sym{equality()}) {
		t.Error("P1.1: equality alone is a signature")
	}
	for _, first := range []api.Sym{
		{},
		{Name: "", Arity: 2, Weight: 1},
		{Name: "==", Arity: 2, Weight: 1},
		{Name: "eq", Arity: 2, Weight: 1},
		{Name: "=", Kind: api.KindFun, Arity: 2, Weight: 1},
		{Name: "=", Kind: api.KindSkolem, Arity: 2, Weight: 1},
		{Name: "=", Kind: -1, Arity: 2, Weight: 1},
		{Name: "=", Arity: 1, Weight: 1},
		{Name: "=", Arity: 3, Weight: 1},
		{Name: "=", Arity: 2, Weight: 0},
		{Name: "=", Arity: 2, Weight: 2},
	} {
		if sign.May([]api.Sym{first}) {
			t.Errorf("P1.1: %+v alone", first)
		}
		sig := family()
		sig[0] = first
		if sign.May(sig) {
			t.Errorf("P1.1: %+v first", first)
		}
	}
	sig := family()
	sig[0], sig[1] = sig[1], sig[0]
	if sign.May(sig) {
		t.Error("P1.1: equality second")
	}
}

func TestMayLength(t *testing.T) {
	if sign.May(nil) || sign.May([]api.Sym{}) {
		t.Error("P1.1: no symbols")
	}
	for n := 1; n <= api.MaxSyms+3; n++ {
		if sign.May(sized(n)) != (n <= api.MaxSyms) {
			t.Errorf("P1.1: %d symbols", n)
		}
	}
}

func TestMaySameName(t *testing.T) {
	for i := 1; i < api.MaxSyms; i++ {
		for j := 1; j < i; j++ {
			sig := sized(api.MaxSyms)
			sig[i].Name = sig[j].Name
			sig[i].Kind = api.KindPred
			sig[i].Arity = 3
			sig[i].Weight = 7
			if sign.May(sig) {
				t.Errorf("P1.1: one name at %d and %d", j, i)
			}
		}
	}
}

func TestFindCodes(t *testing.T) {
	for _, sig := range [][]api.Sym{family(), sized(1), sized(api.MaxSyms)} {
		for code, s := range sig {
			if got, e := sign.Find(sig, s.Name); got != code || e != api.OK {
				t.Errorf("P1.2: %s: %d, %d", s.Name, got, e)
			}
		}
		for _, name := range []string{"", "==", "Adam", "ada", "adams", "adam\x00", " adam", "\xff", strings.Repeat("a", 100000)} {
			if got, e := sign.Find(sig, name); got != -1 || e != api.OK {
				t.Errorf("P1.2: %.12q: %d, %d", name, got, e)
			}
		}
	}
}

// invalidSignatures holds one for each reason that May names.
func invalidSignatures() [][]api.Sym {
	same := family()
	same[3].Name = "adam"
	heavy := family()
	heavy[2].Weight = api.MaxWeight + 1
	return [][]api.Sym{nil, {}, family()[1:], {{}}, sized(api.MaxSyms + 1), same, heavy}
}

func TestFindInvalidSignature(t *testing.T) {
	for i, sig := range invalidSignatures() {
		for _, name := range []string{"=", "parent", "adam", "s1", "nobody", ""} {
			if got, e := sign.Find(sig, name); got != 0 || e != api.ErrSignForm {
				t.Errorf("P1.2: signature %d, %q: %d, %d", i, name, got, e)
			}
		}
	}
}

func TestAddInvalidSignature(t *testing.T) {
	for i, sig := range invalidSignatures() {
		for _, name := range []string{"eve", "adam", "s1", "="} {
			got, e := sign.Add(sig, api.Sym{Name: name, Weight: 1})
			if len(got) != 0 || e != api.ErrSignForm {
				t.Errorf("P1.3: signature %d, %q: %v, %d", i, name, got, e)
			}
		}
	}
}

func TestAddSameName(t *testing.T) {
	for _, sig := range [][]api.Sym{family(), sized(2), sized(api.MaxSyms - 1)} {
		for _, s := range sig[1:] {
			for _, twin := range []api.Sym{s, {Name: s.Name, Kind: api.KindPred, Arity: 3, Weight: 9}} {
				if got, e := sign.Add(sig, twin); len(got) != 0 || e != api.ErrSignTwice {
					t.Errorf("P1.3: %+v: %v, %d", twin, got, e)
				}
			}
		}
	}
}

func TestAddUntilFull(t *testing.T) {
	sig := sized(1)
	for n := 2; n <= api.MaxSyms; n++ {
		next, e := sign.Add(sig, sized(n)[n-1])
		if e != api.OK || !slices.Equal(next, sized(n)) || !sign.May(next) {
			t.Fatalf("P1.3: %d symbols: %v, %d", n, next, e)
		}
		sig = next
	}
	if got, e := sign.Add(sig, api.Sym{Name: "eve", Weight: 1}); len(got) != 0 || e != api.ErrSignFull {
		t.Errorf("P1.3: full: %v, %d", got, e)
	}
}

// A full signature lets every error of Add apply at once.
func TestAddFirstError(t *testing.T) {
	full := sized(api.MaxSyms)
	over := sized(api.MaxSyms + 1)
	for _, c := range []struct {
		what string
		sig  []api.Sym
		s    api.Sym
		want api.Errno
	}{
		{"form, name twice, full", full, api.Sym{Name: "s3", Weight: 0}, api.ErrSignForm},
		{"form by the name, twice, full", full, equality(), api.ErrSignForm},
		{"form, full", full, api.Sym{Name: "eve", Arity: -1, Weight: 1}, api.ErrSignForm},
		{"form of the signature, name twice", over, api.Sym{Name: "s3", Weight: 1}, api.ErrSignForm},
		{"form of the signature, more than full", over, api.Sym{Name: "eve", Weight: 1}, api.ErrSignForm},
		{"name twice, full", full, api.Sym{Name: "s3", Weight: 1}, api.ErrSignTwice},
		{"last name twice, full", full, api.Sym{Name: "s19", Weight: 1}, api.ErrSignTwice},
		{"full", full, api.Sym{Name: "eve", Weight: 1}, api.ErrSignFull},
	} {
		if got, e := sign.Add(c.sig, c.s); len(got) != 0 || e != c.want {
			t.Errorf("R6: %s: %v, %d, not %d", c.what, got, e, c.want)
		}
	}
}

// spare is sig at the start of a longer array, whose tail is to stay as it is.
func spare(sig []api.Sym) (whole, head []api.Sym) {
	whole = slices.Clone(sig)
	for i := 0; i < 4; i++ {
		whole = append(whole, api.Sym{Name: "tail" + strconv.Itoa(i), Kind: -7, Arity: -7, Weight: -7})
	}
	return whole, whole[:len(sig)]
}

func TestArgumentsUnchanged(t *testing.T) {
	repeated := family()
	repeated[2].Name = "parent"
	for i, sig := range [][]api.Sym{family(), sized(1), sized(api.MaxSyms), sized(api.MaxSyms + 1), repeated} {
		whole, head := spare(sig)
		before := slices.Clone(whole)
		sign.May(head)
		sign.Find(head, "adam")
		sign.Find(head, "tail0")
		for _, s := range []api.Sym{{Name: "eve", Weight: 1}, {Name: "s1", Weight: 1}, {Name: "adam", Weight: 1}, {Name: "eve"}} {
			sign.Add(head, s)
		}
		if !slices.Equal(whole, before) {
			t.Errorf("R4: signature %d was changed: %v", i, whole)
		}
	}
}

func TestSpareCapacityUnread(t *testing.T) {
	_, head := spare(family())
	if !sign.May(head) {
		t.Error("P1.1: what lies behind the signature counts")
	}
	if got, e := sign.Find(head, "tail0"); got != -1 || e != api.OK {
		t.Errorf("P1.2: %d, %d", got, e)
	}
	if got, e := sign.Add(head, api.Sym{Name: "tail0", Weight: 1}); len(got) != 5 || e != api.OK {
		t.Errorf("P1.3: %v, %d", got, e)
	}
}

func TestResultsApart(t *testing.T) {
	whole, head := spare(family())
	before := slices.Clone(whole)
	eve := api.Sym{Name: "eve", Kind: api.KindFun, Weight: 1}
	first, _ := sign.Add(head, eve)
	second, _ := sign.Add(head, eve)
	third, _ := sign.Add(first, api.Sym{Name: "cain", Kind: api.KindFun, Weight: 1})
	want := append(family(), eve)
	for i := range first[:cap(first)] {
		first[:cap(first)][i] = api.Sym{Name: "gone"}
	}
	if !slices.Equal(whole, before) || !slices.Equal(second, want) {
		t.Error("R4: a result shares memory with its argument or with another result")
	}
	if len(third) != 6 || !slices.Equal(third[:5], want) || third[5].Name != "cain" {
		t.Errorf("R4: a result shares memory with its argument: %v", third)
	}
	for i := range whole {
		whole[i] = api.Sym{}
	}
	if !slices.Equal(second, want) {
		t.Error("R4: a result changes with its argument")
	}
}

// Run with -race, this also tells of calls that write what others read.
func TestCallsAtOnce(t *testing.T) {
	_, head := spare(family())
	var all sync.WaitGroup
	for n := 0; n < 8; n++ {
		all.Add(1)
		go func() {
			defer all.Done()
			name := "n" + strconv.Itoa(n)
			for turn := 0; turn < 200; turn++ {
				out, e := sign.Add(head, api.Sym{Name: name, Weight: 1})
				code, f := sign.Find(out, name)
				if e != api.OK || f != api.OK || code != 4 || !sign.May(head) {
					t.Errorf("R5: %s: %v, %d, %d, %d", name, out, e, code, f)
					return
				}
			}
		}()
	}
	all.Wait()
}
