package point_test

import (
	"math"
	"math/big"
	"slices"
	"sync"
	"testing"

	"quaere/api"
	"quaere/point"
)

// whole is a complex number of integers without bounds.
type whole struct {
	re, im *big.Int
}

func wholeOf(p api.Point) whole {
	return whole{big.NewInt(int64(p.Re)), big.NewInt(int64(p.Im))}
}

func product(a, b *big.Int) *big.Int {
	return new(big.Int).Mul(a, b)
}

func (a whole) plus(b whole) whole {
	return whole{new(big.Int).Add(a.re, b.re), new(big.Int).Add(a.im, b.im)}
}

func (a whole) times(b whole) whole {
	re := new(big.Int).Sub(product(a.re, b.re), product(a.im, b.im))
	im := new(big.Int).Add(product(a.re, b.im), product(a.im, b.re))
	return whole{re, im}
}

func (a whole) conjugate() whole {
	return whole{a.re, new(big.Int).Neg(a.im)}
}

// valid tells whether both parts are within the bounds.
func (a whole) valid() bool {
	bound := big.NewInt(far)
	return a.re.CmpAbs(bound) <= 0 && a.im.CmpAbs(bound) <= 0
}

func (a whole) point() api.Point {
	return at(int(a.re.Int64()), int(a.im.Int64()))
}

// resultIs holds a point that was told against the number that it must be.
func resultIs(t *testing.T, what string, p, q, got api.Point, e api.Errno, want whole) {
	t.Helper()
	if want.valid() && (got != want.point() || e != api.OK) {
		t.Fatalf("P9.1: %s(%v, %v) = %v, %d; want %v", what, p, q, got, e, want.point())
	}
	if !want.valid() && (got != at(0, 0) || e != api.ErrPointFar) {
		t.Fatalf("P9.1, R2: %s(%v, %v) = %v, %d; want ErrPointFar", what, p, q, got, e)
	}
}

// asExpected holds all calls of two valid points against the plain words; it answers whether sum and product are valid.
func asExpected(t *testing.T, p, q api.Point) (bool, bool) {
	t.Helper()
	a, b, i := wholeOf(p), wholeOf(q), wholeOf(at(0, 1))
	sum, e := point.Add(p, q)
	resultIs(t, "Add", p, q, sum, e, a.plus(b))
	mul, f := point.Mul(p, q)
	resultIs(t, "Mul", p, q, mul, f, a.times(b))
	flip, e := point.Flip(p)
	if want := i.times(a.conjugate()).point(); flip != want || e != api.OK {
		t.Fatalf("P9.2: Flip(%v) = %v, %d; want %v", p, flip, e, want)
	}
	under, e := point.Under(p, q)
	if want := !(p.Re > q.Re) && !(p.Im > q.Im); under != want || e != api.OK {
		t.Fatalf("P9.2: Under(%v, %v) = %t, %d", p, q, under, e)
	}
	score, e := point.Score(p, q)
	if want := a.times(b.conjugate()).re; !want.IsInt64() || int64(score) != want.Int64() || e != api.OK {
		t.Fatalf("P9.2: Score(%v, %v) = %d, %d; want %v", p, q, score, e, want)
	}
	return a.plus(b).valid(), a.times(b).valid()
}

func TestAllSmallPoints(t *testing.T) {
	const n = 6
	for re := -n; re <= n; re++ {
		for im := -n; im <= n; im++ {
			for re2 := -n; re2 <= n; re2++ {
				for im2 := -n; im2 <= n; im2++ {
					asExpected(t, at(re, im), at(re2, im2))
				}
			}
		}
	}
}

func TestAllPairsAtTheBounds(t *testing.T) {
	for _, p := range rightPoints() {
		for _, q := range rightPoints() {
			asExpected(t, p, q)
		}
	}
}

// chance is a row of numbers by a fixed rule.
type chance uint32

func (c *chance) below(n int) int {
	*c = *c*1664525 + 1013904223
	return int(*c>>8) % n
}

// part is a number from -far to far, of any size.
func (c *chance) part() int {
	n := []int{3, 30, 1000, 1500, far, far}[c.below(6)]
	return c.below(2*n+1) - n
}

func (c *chance) point() api.Point {
	return at(c.part(), c.part())
}

func TestManyPoints(t *testing.T) {
	c := chance(3)
	var sums, products [2]int
	for range 60000 {
		sum, mul := asExpected(t, c.point(), c.point())
		if sum {
			sums[0]++
		} else {
			sums[1]++
		}
		if mul {
			products[0]++
		} else {
			products[1]++
		}
	}
	if slices.Min(sums[:]) < 2000 || slices.Min(products[:]) < 2000 {
		t.Errorf("too few of a kind: %v, %v", sums, products)
	}
}

// Products of just the bound and of one beyond it, in every way in which a number less than the bound makes them.
func TestAllJustFarProducts(t *testing.T) {
	for n := 1; n <= 2000; n++ {
		for _, bound := range []int{far - 1, far, far + 1} {
			if bound%n != 0 {
				continue
			}
			m := bound / n
			for _, p := range []api.Point{at(n, 0), at(-n, 0), at(0, n), at(0, -n)} {
				for _, q := range []api.Point{at(m, 0), at(0, m), at(m, m), at(-m, m), at(m, -m)} {
					if point.May(q) {
						asExpected(t, p, q)
						asExpected(t, q, p)
					}
				}
			}
		}
	}
}

// Laws that hold wherever the points that they speak of are valid.
func TestLaws(t *testing.T) {
	c := chance(7)
	small := func() api.Point { return at(c.below(81)-40, c.below(81)-40) }
	must := func(p api.Point, e api.Errno) api.Point {
		if e != api.OK {
			t.Fatalf("P9.1: small points: %v, %d", p, e)
		}
		return p
	}
	for range 5000 {
		p, q, r := small(), small(), small()
		if a, b := must(point.Add(must(point.Add(p, q)), r)), must(point.Add(p, must(point.Add(q, r)))); a != b {
			t.Errorf("P9.1: %v + %v + %v: %v and %v", p, q, r, a, b)
		}
		if a, b := must(point.Mul(must(point.Mul(p, q)), r)), must(point.Mul(p, must(point.Mul(q, r)))); a != b {
			t.Errorf("P9.1: %v * %v * %v: %v and %v", p, q, r, a, b)
		}
		if a, b := must(point.Mul(p, must(point.Add(q, r)))), must(point.Add(must(point.Mul(p, q)), must(point.Mul(p, r)))); a != b {
			t.Errorf("P9.1: %v * (%v + %v): %v and %v", p, q, r, a, b)
		}
		if a, b := must(point.Flip(must(point.Mul(p, q)))), must(point.Mul(must(point.Flip(p)), at(q.Re, -q.Im))); a != b {
			t.Errorf("P9.2: Flip of %v * %v: %v and %v", p, q, a, b)
		}
	}
}

// Under is an order: of points each under the next one, the first is under the last.
func TestUnderGoesOn(t *testing.T) {
	c := chance(11)
	chains := 0
	for range 50000 {
		p, q, r := c.point(), c.point(), c.point()
		first, _ := point.Under(p, q)
		second, _ := point.Under(q, r)
		if !first || !second {
			continue
		}
		chains++
		underIs(t, "from the first to the last", p, r, true)
	}
	if chains < 1000 {
		t.Errorf("too few chains: %d", chains)
	}
}

// No call may panic, whatever the numbers, and each takes or refuses points alike.
func TestWildPoints(t *testing.T) {
	c := chance(9)
	wild := slices.Concat(wrongParts(), slices.Repeat(rightParts(), 5))
	part := func() int {
		if c.below(12) == 0 {
			return math.MinInt + c.below(1<<24)*c.below(1<<24)*c.below(1<<15)
		}
		return wild[c.below(len(wild))]
	}
	within := func(n int) bool { return n >= -1000000 && n <= 1000000 }
	var seen [2]int
	for range 30000 {
		p, q := at(part(), part()), at(part(), part())
		mayP, mayQ := within(p.Re) && within(p.Im), within(q.Re) && within(q.Im)
		if point.May(p) != mayP || point.May(q) != mayQ {
			t.Fatalf("P9.1: May of %v and %v", p, q)
		}
		if mayP && mayQ {
			seen[0]++
			asExpected(t, p, q)
			continue
		}
		seen[1]++
		pairRefused(t, p, q)
		pairRefused(t, q, p)
	}
	if slices.Min(seen[:]) < 2000 {
		t.Errorf("too few of a kind: %v", seen)
	}
}

// Run with -race, this also tells of calls that write what others read.
func TestCallsAtOnce(t *testing.T) {
	sig, some := symbols(), someClauses()
	var joined sync.WaitGroup
	for range 8 {
		joined.Add(1)
		go func() {
			defer joined.Done()
			for _, c := range some {
				got, e := point.Of(sig, c)
				if want := expectOf(c); got != want || e != api.OK {
					t.Errorf("R5: at once: Of(%v) = %v, %d; want %v", c, got, e, want)
				}
				if sum, e := point.Add(got, at(1, 2)); sum != at(got.Re+1, got.Im+2) || e != api.OK {
					t.Errorf("R5: at once: Add(%v, 1 + 2 i) = %v, %d", got, sum, e)
				}
			}
		}()
	}
	joined.Wait()
}
