package point_test

import (
	"math"
	"testing"

	"quaere/api"
	"quaere/point"
)

const far = api.MaxFar

func at(re, im int) api.Point {
	return api.Point{Re: re, Im: im}
}

// rightParts are those of valid points: ordinary ones, the bounds, and what is just inside.
func rightParts() []int {
	return []int{-far, -far + 1, -4711, -1000, -3, -2, -1, 0, 1, 2, 3, 1000, 4711, far - 1, far}
}

// wrongParts are beyond the bounds, some by one; of some a sum or a product, or what a smaller kind of number keeps of them, would be within.
func wrongParts() []int {
	return []int{
		-far - 1, far + 1, -far - 2, far + 2, -2 * far, 2 * far, far * far, -far * far,
		math.MinInt32, math.MaxInt32, 1 << 32, 1<<32 + 1, -1 << 32, 1 << 24, 1 << 53, 1<<53 + 1, -1<<53 - 1,
		math.MinInt, math.MinInt + 1, math.MaxInt, math.MaxInt - 1, math.MinInt / 2, math.MaxInt/2 + 1, math.MaxInt - far, math.MinInt + far,
	}
}

func rightPoints() []api.Point {
	var out []api.Point
	for _, re := range rightParts() {
		for _, im := range rightParts() {
			out = append(out, at(re, im))
		}
	}
	return out
}

// wrongPoints have a wrong part in the one place, in the other, in both.
func wrongPoints() []api.Point {
	var out []api.Point
	for _, wrong := range wrongParts() {
		for _, right := range rightParts() {
			out = append(out, at(wrong, right), at(right, wrong))
		}
		for _, other := range wrongParts() {
			out = append(out, at(wrong, other))
		}
	}
	return out
}

// P9.1.

func TestMay(t *testing.T) {
	for _, p := range rightPoints() {
		if !point.May(p) {
			t.Errorf("P9.1: May(%v) = false", p)
		}
	}
	for _, p := range wrongPoints() {
		if point.May(p) {
			t.Errorf("P9.1: May(%v) = true", p)
		}
	}
}

// pairRefused looks whether every call of two points refuses these, and what stands beside the error.
func pairRefused(t *testing.T, p, q api.Point) {
	t.Helper()
	if got, e := point.Add(p, q); got != at(0, 0) || e != api.ErrPointForm {
		t.Errorf("P9.1, R2: Add(%v, %v) = %v, %d", p, q, got, e)
	}
	if got, e := point.Mul(p, q); got != at(0, 0) || e != api.ErrPointForm {
		t.Errorf("P9.1, R2: Mul(%v, %v) = %v, %d", p, q, got, e)
	}
	if got, e := point.Under(p, q); got || e != api.ErrPointForm {
		t.Errorf("P9.2, R2: Under(%v, %v) = %t, %d", p, q, got, e)
	}
	if got, e := point.Score(p, q); got != 0 || e != api.ErrPointForm {
		t.Errorf("P9.2, R2: Score(%v, %v) = %d, %d", p, q, got, e)
	}
}

// What would come out of a wrong point might be valid, or too far: it is refused for itself.
func TestWrongPointsRefused(t *testing.T) {
	for _, wrong := range wrongPoints() {
		if got, e := point.Flip(wrong); got != at(0, 0) || e != api.ErrPointForm {
			t.Errorf("P9.2, R2: Flip(%v) = %v, %d", wrong, got, e)
		}
		back := at(-wrong.Re, -wrong.Im)
		for _, other := range []api.Point{at(0, 0), at(1, 0), at(-1, 0), at(0, 1), at(0, -1), at(far, far), at(-far, -far), at(far, -far), at(-far, far), wrong, back, at(wrong.Im, wrong.Re)} {
			pairRefused(t, wrong, other)
			pairRefused(t, other, wrong)
		}
	}
}

// sumIs looks at a sum, either way round.
func sumIs(t *testing.T, what string, p, q, want api.Point, err api.Errno) {
	t.Helper()
	for _, pair := range [][2]api.Point{{p, q}, {q, p}} {
		if got, e := point.Add(pair[0], pair[1]); got != want || e != err {
			t.Errorf("P9.1 %s: Add(%v, %v) = %v, %d; want %v, %d", what, pair[0], pair[1], got, e, want, err)
		}
	}
}

func TestAdd(t *testing.T) {
	sumIs(t, "nought", at(0, 0), at(0, 0), at(0, 0), api.OK)
	sumIs(t, "nought and a point", at(0, 0), at(-7, 11), at(-7, 11), api.OK)
	sumIs(t, "positive parts", at(1, 20), at(300, 4000), at(301, 4020), api.OK)
	sumIs(t, "negative parts", at(-1, -20), at(-300, -4000), at(-301, -4020), api.OK)
	sumIs(t, "parts of either sign", at(5, -6), at(-8, 20), at(-3, 14), api.OK)
	sumIs(t, "the one part alone", at(5, 0), at(6, 0), at(11, 0), api.OK)
	sumIs(t, "the other part alone", at(0, 5), at(0, 6), at(0, 11), api.OK)
	sumIs(t, "each part alone", at(5, 0), at(0, -6), at(5, -6), api.OK)
	sumIs(t, "what it takes to nought", at(-12, 34), at(12, -34), at(0, 0), api.OK)
	sumIs(t, "the farthest taken to nought", at(far, -far), at(-far, far), at(0, 0), api.OK)
}

func TestAddAtTheBounds(t *testing.T) {
	for _, s := range []int{1, -1} {
		sumIs(t, "the farthest and nought", at(s*far, s*far), at(0, 0), at(s*far, s*far), api.OK)
		sumIs(t, "just valid in the one part", at(s*(far-1), 3), at(s, 4), at(s*far, 7), api.OK)
		sumIs(t, "just valid in the other part", at(3, s*600000), at(4, s*400000), at(7, s*far), api.OK)
		sumIs(t, "just valid in both", at(s*far/2, -s*far/2), at(s*far/2, -s*far/2), at(s*far, -s*far), api.OK)
		sumIs(t, "just not in the one part", at(s*far, 3), at(s, 4), at(0, 0), api.ErrPointFar)
		sumIs(t, "just not in the other part", at(3, s*600000), at(4, s*400001), at(0, 0), api.ErrPointFar)
		sumIs(t, "just not in both", at(s*far, -s), at(s, -s*far), at(0, 0), api.ErrPointFar)
		sumIs(t, "not in the one part, the other at its bound", at(s*far, s*far), at(s, 0), at(0, 0), api.ErrPointFar)
		sumIs(t, "not in the other part, the one at its bound", at(s*far, s*far), at(0, s), at(0, 0), api.ErrPointFar)
		sumIs(t, "as far as can be in the one part", at(s*far, 0), at(s*far, 0), at(0, 0), api.ErrPointFar)
		sumIs(t, "as far as can be in the other part", at(0, s*far), at(0, s*far), at(0, 0), api.ErrPointFar)
		sumIs(t, "as far as can be in both", at(s*far, -s*far), at(s*far, -s*far), at(0, 0), api.ErrPointFar)
	}
}

// productIs looks at a product, either way round.
func productIs(t *testing.T, what string, p, q, want api.Point, err api.Errno) {
	t.Helper()
	for _, pair := range [][2]api.Point{{p, q}, {q, p}} {
		if got, e := point.Mul(pair[0], pair[1]); got != want || e != err {
			t.Errorf("P9.1 %s: Mul(%v, %v) = %v, %d; want %v, %d", what, pair[0], pair[1], got, e, want, err)
		}
	}
}

func TestMul(t *testing.T) {
	productIs(t, "nought", at(0, 0), at(0, 0), at(0, 0), api.OK)
	productIs(t, "nought and the farthest", at(0, 0), at(far, -far), at(0, 0), api.OK)
	productIs(t, "one", at(1, 0), at(-far, far), at(-far, far), api.OK)
	productIs(t, "minus one", at(-1, 0), at(-far, far), at(far, -far), api.OK)
	productIs(t, "i: a quarter turn", at(0, 1), at(3, 4), at(-4, 3), api.OK)
	productIs(t, "minus i: a quarter turn back", at(0, -1), at(3, 4), at(4, -3), api.OK)
	productIs(t, "i and i", at(0, 1), at(0, 1), at(-1, 0), api.OK)
	productIs(t, "i and minus i", at(0, 1), at(0, -1), at(1, 0), api.OK)
	productIs(t, "i and the farthest", at(0, 1), at(far, far), at(-far, far), api.OK)
	productIs(t, "numbers without i", at(6, 0), at(-7, 0), at(-42, 0), api.OK)
	productIs(t, "i times numbers", at(0, 6), at(0, 7), at(-42, 0), api.OK)
	productIs(t, "all parts positive", at(2, 3), at(5, 7), at(-11, 29), api.OK)
	productIs(t, "all parts negative", at(-2, -3), at(-5, -7), at(-11, 29), api.OK)
	productIs(t, "one negative part", at(2, -3), at(5, 7), at(31, -1), api.OK)
	productIs(t, "one point negative", at(2, 3), at(-5, -7), at(11, -29), api.OK)
	productIs(t, "with its conjugate", at(300, 400), at(300, -400), at(250000, 0), api.OK)
	productIs(t, "with itself", at(20, 30), at(20, 30), at(-500, 1200), api.OK)
}

func TestMulAtTheBounds(t *testing.T) {
	productIs(t, "just valid in the one part", at(1000, 0), at(1000, 0), at(far, 0), api.OK)
	productIs(t, "just valid in the one part, downwards", at(0, 1000), at(0, 1000), at(-far, 0), api.OK)
	productIs(t, "just valid in the other part", at(1000, 0), at(0, 1000), at(0, far), api.OK)
	productIs(t, "just valid in the other part, downwards", at(-1000, 0), at(0, 1000), at(0, -far), api.OK)
	productIs(t, "just valid in both", at(1000, 0), at(1000, -1000), at(far, -far), api.OK)
	productIs(t, "just valid in both by a turn", at(1, 1), at(far, 0), at(far, far), api.OK)
	productIs(t, "one less in the one part", at(1001, 0), at(999, 0), at(far-1, 0), api.OK)
	productIs(t, "just not in the one part", at(1000, 1), at(1000, -1), at(0, 0), api.ErrPointFar)
	productIs(t, "just not in the one part, downwards", at(-1000, 1), at(1000, 1), at(0, 0), api.ErrPointFar)
	productIs(t, "just not in the other part", at(1000, 1), at(1, 1000), at(0, 0), api.ErrPointFar)
	productIs(t, "just not in the other part, downwards", at(-1000, -1), at(1, 1000), at(0, 0), api.ErrPointFar)
	productIs(t, "just not in both", at(101, 0), at(9901, 9901), at(0, 0), api.ErrPointFar)
	productIs(t, "just not in both, downwards", at(-101, 0), at(9901, 9901), at(0, 0), api.ErrPointFar)
	productIs(t, "far in the one part, nought in the other", at(1, 1), at(far, -far), at(0, 0), api.ErrPointFar)
	productIs(t, "nought in the one part, far in the other", at(1, 1), at(far, far), at(0, 0), api.ErrPointFar)
}

// What the parts of these are made of is far beyond 32 bits.
func TestMulFarthest(t *testing.T) {
	for _, p := range []api.Point{at(far, 0), at(0, far), at(far, far), at(-far, far), at(far, -far), at(-far, -far), at(far, 1), at(-1, far), at(65536, 0), at(0, 65536), at(65536, 65536)} {
		for _, q := range []api.Point{at(far, 0), at(0, far), at(far, far), at(-far, far), at(far, -far), at(-far, -far), at(far-1, -far), at(65536, 0), at(0, -65536), at(65536, -65536)} {
			productIs(t, "far beyond", p, q, at(0, 0), api.ErrPointFar)
		}
	}
}

// P9.2.

func TestFlip(t *testing.T) {
	for _, c := range [][2]api.Point{
		{at(0, 0), at(0, 0)}, {at(1, 0), at(0, 1)}, {at(0, 1), at(1, 0)}, {at(-1, 0), at(0, -1)}, {at(0, -1), at(-1, 0)},
		{at(3, 4), at(4, 3)}, {at(3, -4), at(-4, 3)}, {at(-3, 4), at(4, -3)}, {at(-3, -4), at(-4, -3)}, {at(5, 5), at(5, 5)}, {at(5, -5), at(-5, 5)},
		{at(far, 0), at(0, far)}, {at(0, -far), at(-far, 0)}, {at(far, -far), at(-far, far)}, {at(far-1, far), at(far, far-1)}, {at(-far, 1-far), at(1-far, -far)},
	} {
		if got, e := point.Flip(c[0]); got != c[1] || e != api.OK {
			t.Errorf("P9.2: Flip(%v) = %v, %d; want %v", c[0], got, e, c[1])
		}
	}
}

func TestFlipOfFlip(t *testing.T) {
	for _, p := range rightPoints() {
		q, e := point.Flip(p)
		if r, f := point.Flip(q); e != api.OK || r != p || f != api.OK {
			t.Errorf("P9.2: Flip(%v) = %v, %d; Flip of it = %v, %d", p, q, e, r, f)
		}
	}
}

func underIs(t *testing.T, what string, p, q api.Point, want bool) {
	t.Helper()
	if got, e := point.Under(p, q); got != want || e != api.OK {
		t.Errorf("P9.2 %s: Under(%v, %v) = %t, %d; want %t", what, p, q, got, e, want)
	}
}

// orderIs looks at two different points, of which the first is under the other one or neither is.
func orderIs(t *testing.T, what string, p, q api.Point, want bool) {
	t.Helper()
	underIs(t, what, p, q, want)
	underIs(t, what+", the other way round", q, p, false)
}

func TestUnder(t *testing.T) {
	orderIs(t, "both parts less", at(1, 2), at(3, 4), true)
	orderIs(t, "the one part less", at(1, 4), at(3, 4), true)
	orderIs(t, "the other part less", at(3, 2), at(3, 4), true)
	orderIs(t, "the one part less, the other greater", at(1, 5), at(3, 4), false)
	orderIs(t, "the one part less by one, the other greater by far", at(2, far), at(3, -far), false)
	orderIs(t, "the one part greater by one, the other less by far", at(4, -far), at(3, far), false)
	orderIs(t, "less by one in the one part", at(-1, 0), at(0, 0), true)
	orderIs(t, "less by one in the other part", at(0, -1), at(0, 0), true)
	orderIs(t, "less by one in both", at(-1, -1), at(0, 0), true)
	orderIs(t, "negative parts", at(-5, -6), at(-4, -6), true)
	orderIs(t, "over nought", at(-1, -1), at(1, 1), true)
	orderIs(t, "over nought, each another way", at(-1, 1), at(1, -1), false)
	orderIs(t, "as far apart as can be", at(-far, -far), at(far, far), true)
	orderIs(t, "as far apart as can be, each another way", at(far, -far), at(-far, far), false)
	orderIs(t, "nearer to nought, but greater", at(-3, -3), at(-2, -2), true)
	orderIs(t, "just inside the bounds", at(far-1, far), at(far, far), true)
	orderIs(t, "just inside the lower bounds", at(-far, -far), at(-far, 1-far), true)
}

func TestUnderItself(t *testing.T) {
	for _, p := range rightPoints() {
		underIs(t, "itself", p, p, true)
	}
}

// scoreIs looks at a score, either way round: how far p lies along d and d along p is the same number.
func scoreIs(t *testing.T, what string, p, d api.Point, want int) {
	t.Helper()
	for _, pair := range [][2]api.Point{{p, d}, {d, p}} {
		if got, e := point.Score(pair[0], pair[1]); got != want || e != api.OK {
			t.Errorf("P9.2 %s: Score(%v, %v) = %d, %d; want %d", what, pair[0], pair[1], got, e, want)
		}
	}
}

func TestScore(t *testing.T) {
	scoreIs(t, "nought", at(0, 0), at(0, 0), 0)
	scoreIs(t, "nought and the farthest", at(0, 0), at(-far, far), 0)
	scoreIs(t, "along one", at(3, 4), at(1, 0), 3)
	scoreIs(t, "along minus one", at(3, 4), at(-1, 0), -3)
	scoreIs(t, "along i", at(3, 4), at(0, 1), 4)
	scoreIs(t, "along minus i", at(3, 4), at(0, -1), -4)
	scoreIs(t, "i along i", at(0, 1), at(0, 1), 1)
	scoreIs(t, "all parts positive", at(2, 3), at(5, 7), 31)
	scoreIs(t, "all parts negative", at(-2, -3), at(-5, -7), 31)
	scoreIs(t, "a negative part", at(2, -3), at(5, 7), -11)
	scoreIs(t, "another negative part", at(-2, 3), at(5, 7), 11)
	scoreIs(t, "one point negative", at(2, 3), at(-5, -7), -31)
	scoreIs(t, "farther than a point's part", at(1000, 1), at(1000, 1), far+1)
	scoreIs(t, "farther than a point's part, downwards", at(1000, 1), at(-1000, -1), -far-1)
	scoreIs(t, "the ratio of weight and age", at(3, 1), at(40, 7), 127)
}

func TestScoreFarthest(t *testing.T) {
	scoreIs(t, "the farthest along itself", at(far, far), at(far, far), 2*far*far)
	scoreIs(t, "the farthest along its opposite", at(far, far), at(-far, -far), -2*far*far)
	scoreIs(t, "the farthest downwards along itself", at(-far, -far), at(-far, -far), 2*far*far)
	scoreIs(t, "the farthest a quarter turn apart", at(far, far), at(-far, far), 0)
	scoreIs(t, "the farthest in the one part", at(far, 0), at(far, 0), far*far)
	scoreIs(t, "the farthest in the other part", at(0, -far), at(0, far), -far*far)
	scoreIs(t, "to the last digit", at(far, far-1), at(far-1, far), 2*far*(far-1))
	scoreIs(t, "to the last digit, odd", at(far-1, far), at(far-1, far), (far-1)*(far-1)+far*far)
	scoreIs(t, "great parts that nearly cancel", at(far, far-1), at(far, -far), far)
	scoreIs(t, "great parts that cancel but for little", at(far, far-1), at(far-1, 2-far), 2*(far-1))
	scoreIs(t, "great parts that differ by little", at(999999, 999998), at(999997, -999998), 999999*999997-999998*999998)
}

// A point lies along itself by the square of its length, and along a quarter turn further not at all.
func TestScoreAlongItself(t *testing.T) {
	for _, p := range rightPoints() {
		scoreIs(t, "along itself", p, p, p.Re*p.Re+p.Im*p.Im)
		scoreIs(t, "along its opposite", p, at(-p.Re, -p.Im), -p.Re*p.Re-p.Im*p.Im)
		scoreIs(t, "along a quarter turn further", p, at(-p.Im, p.Re), 0)
		scoreIs(t, "along a quarter turn back", p, at(p.Im, -p.Re), 0)
	}
}
