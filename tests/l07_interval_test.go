package tests

import (
	"math"
	"math/big"
	"testing"

	"loop.example/g00069/impl"
)

// wholes is a Range of whole numbers.
func wholes(low int64, high int64) interval { return span(frac(low, 1), frac(high, 1)) }

func TestRangeOkTells(t *testing.T) {
	for _, r := range []interval{
		wholes(-1, 2), wholes(3, 4), wholes(-4, -3), wholes(0, 1), wholes(-1, 0), wholes(-maxPart, maxPart), span(frac(-1, 2), frac(-1, 3)), span(frac(1, maxPart), frac(1, 999999999)), span(frac(499999999, 999999999), frac(1, 2)),
		// Low is High.
		wholes(0, 0), wholes(7, 7), wholes(-7, -7), span(frac(-3, 2), frac(-3, 2)), wholes(maxPart, maxPart), wholes(-maxPart, -maxPart), span(frac(1, maxPart), frac(1, maxPart)), span(frac(maxPart, 999999999), frac(maxPart, 999999999)),
	} {
		if !impl.RangeOk(r) || !checkSpan(t, r) {
			t.Errorf("%v is refused", r)
		}
	}
	for _, r := range append(wrongSpans(),
		// Both ends would be in order, if they were fractions.
		span(zero, zero), span(zero, frac(1, 1)), span(frac(-1, 1), zero), span(frac(2, 4), frac(3, 4)), span(frac(1, 4), frac(2, 4)), span(frac(0, 2), frac(1, 1)), span(frac(-1, 1), frac(0, 2)), span(frac(1, -1), frac(1, 1)), span(frac(-1, 1), frac(-1, -1)),
		wholes(0, maxPart+1), wholes(-maxPart-1, 0), span(frac(0, 1), frac(1, maxPart+1)), span(frac(-1, maxPart+1), frac(0, 1)), wholes(math.MinInt64, math.MaxInt64), span(frac(math.MinInt64, math.MaxInt64), frac(math.MaxInt64, math.MaxInt64))) {
		if impl.RangeOk(r) || checkSpan(t, r) {
			t.Errorf("%v is taken", r)
		}
	}
}

func TestRangeAddTells(t *testing.T) {
	for _, c := range [][3]interval{
		{wholes(-1, 2), wholes(3, 4), wholes(2, 6)}, {wholes(1, 2), wholes(3, 5), wholes(4, 7)}, {wholes(-2, -1), wholes(-5, -3), wholes(-7, -4)}, {wholes(-2, -1), wholes(3, 5), wholes(1, 4)}, {wholes(-3, 1), wholes(-1, 3), wholes(-4, 4)},
		{span(frac(1, 3), frac(1, 2)), span(frac(1, 6), frac(1, 3)), span(frac(1, 2), frac(5, 6))}, {span(frac(-1, 2), frac(1, 3)), span(frac(1, 2), frac(2, 3)), wholes(0, 1)},
		// 0 at an end, 0 alone, one number alone.
		{wholes(0, 2), wholes(-3, 0), wholes(-3, 2)}, {wholes(0, 0), wholes(-3, 5), wholes(-3, 5)}, {wholes(0, 0), wholes(0, 0), wholes(0, 0)}, {wholes(7, 7), wholes(-7, -7), wholes(0, 0)}, {wholes(2, 2), wholes(-1, 4), wholes(1, 6)},
		// Just fractions.
		{wholes(-1, 1), wholes(1-maxPart, maxPart-1), wholes(-maxPart, maxPart)}, {wholes(0, maxPart), wholes(0, 0), wholes(0, maxPart)}, {wholes(-maxPart, 0), wholes(0, maxPart), wholes(-maxPart, maxPart)}, {wholes(-maxPart, maxPart), wholes(0, 0), wholes(-maxPart, maxPart)},
		{span(frac(1, 31622), frac(1, 1)), span(frac(1, 31621), frac(1, 1)), span(frac(63243, 999919262), frac(2, 1))}, {span(frac(-1, maxPart), frac(1, maxPart)), span(frac(0, 1), frac(0, 1)), span(frac(-1, maxPart), frac(1, maxPart))},
		{span(frac(-1, 999999999), frac(1, 999999999)), span(frac(-1, 999999999), frac(1, 999999999)), span(frac(-2, 999999999), frac(2, 999999999))},
		// Low of one and High of the other have no sum that is a fraction; no end is made of them.
		{span(frac(1, maxPart), frac(1, 1)), span(frac(0, 1), frac(1, 3)), span(frac(1, maxPart), frac(4, 3))}, {span(frac(-1, 1), frac(1, maxPart)), span(frac(-1, 3), frac(0, 1)), span(frac(-4, 3), frac(1, maxPart))},
	} {
		pairings()[0].tellsBothWays(t, c)
	}
}

func TestRangeAddRefuses(t *testing.T) {
	for _, c := range [][2]interval{
		// Low alone is too great, High alone, both.
		{wholes(-maxPart, 0), wholes(-1, 0)}, {wholes(-maxPart, -maxPart), wholes(-1, maxPart)}, {wholes(0, maxPart), wholes(0, 1)}, {wholes(maxPart, maxPart), wholes(-maxPart, 1)}, {wholes(-maxPart, maxPart), wholes(-1, 1)}, {wholes(maxPart, maxPart), wholes(1, 1)},
		{wholes(-maxPart, maxPart), wholes(-maxPart, maxPart)}, {wholes(-1, maxPart/2+1), wholes(-1, maxPart/2)}, {wholes(-maxPart/2-1, 1), wholes(-maxPart/2, 1)},
		// By its D: at Low alone, at High alone, at both.
		{span(frac(1, maxPart), frac(1, 1)), span(frac(1, 3), frac(1, 1))}, {span(frac(-1, 1), frac(1, maxPart)), span(frac(-1, 1), frac(1, 3))}, {span(frac(1, maxPart), frac(1, maxPart)), span(frac(1, 3), frac(1, 3))}, {span(frac(1, 31623), frac(1, 1)), span(frac(1, 31624), frac(1, 1))},
	} {
		pairings()[0].refusesBothWays(t, c[0], c[1])
	}
}

// Each pair of Ranges below 0, above 0, with 0 within, with 0 at either end, and of one number.
func TestRangeMulTells(t *testing.T) {
	for _, c := range [][3]interval{
		{wholes(2, 3), wholes(5, 7), wholes(10, 21)}, {wholes(2, 3), wholes(-7, -5), wholes(-21, -10)}, {wholes(-3, -2), wholes(-7, -5), wholes(10, 21)}, {wholes(2, 3), wholes(-7, 5), wholes(-21, 15)}, {wholes(-3, -2), wholes(-7, 5), wholes(-15, 21)}, {wholes(-1, 2), wholes(3, 4), wholes(-4, 8)},
		// 0 within both: either pair of ends may be the greater one.
		{wholes(-1, 2), wholes(-3, 4), wholes(-6, 8)}, {wholes(-2, 1), wholes(-4, 3), wholes(-6, 8)}, {wholes(-2, 1), wholes(-3, 4), wholes(-8, 6)}, {wholes(-1, 1), wholes(-1, 1), wholes(-1, 1)}, {wholes(-3, 2), wholes(-3, 2), wholes(-6, 9)},
		// 0 at an end.
		{wholes(0, 3), wholes(5, 7), wholes(0, 21)}, {wholes(0, 3), wholes(-7, -5), wholes(-21, 0)}, {wholes(0, 3), wholes(-7, 5), wholes(-21, 15)}, {wholes(0, 3), wholes(0, 7), wholes(0, 21)}, {wholes(0, 3), wholes(-7, 0), wholes(-21, 0)}, {wholes(-3, 0), wholes(-7, 0), wholes(0, 21)},
		{wholes(-3, 0), wholes(5, 7), wholes(-21, 0)}, {wholes(-3, 0), wholes(-7, -5), wholes(0, 21)}, {wholes(-3, 0), wholes(-7, 5), wholes(-15, 21)},
		// 0 alone, one number alone.
		{wholes(0, 0), wholes(5, 7), wholes(0, 0)}, {wholes(0, 0), wholes(-7, 5), wholes(0, 0)}, {wholes(0, 0), wholes(0, 0), wholes(0, 0)}, {wholes(0, 0), wholes(-maxPart, maxPart), wholes(0, 0)}, {wholes(-2, -2), wholes(-7, 5), wholes(-10, 14)}, {wholes(1, 1), wholes(-7, 5), wholes(-7, 5)},
		{wholes(-1, -1), wholes(-7, 5), wholes(-5, 7)}, {wholes(3, 3), wholes(-2, -2), wholes(-6, -6)}, {span(frac(2, 3), frac(2, 3)), span(frac(3, 2), frac(3, 2)), wholes(1, 1)}, {span(frac(-1, 2), frac(1, 3)), span(frac(-2, 3), frac(3, 4)), span(frac(-3, 8), frac(1, 3))},
		// Just fractions.
		{wholes(-1, 2), wholes(0, maxPart/2), wholes(-maxPart/2, maxPart)}, {wholes(-maxPart, maxPart), wholes(-1, 1), wholes(-maxPart, maxPart)}, {wholes(-2, -2), wholes(-maxPart/2, maxPart/2), wholes(-maxPart, maxPart)}, {wholes(31622, 31623), wholes(31621, 31622), wholes(31622*31621, 31623*31622)},
		{span(frac(1, maxPart), frac(1, 1)), wholes(1, maxPart), span(frac(1, maxPart), frac(maxPart, 1))}, {span(frac(-1, 40000), frac(1, 25000)), span(frac(-1, 25000), frac(0, 1)), span(frac(-1, 625000000), frac(1, maxPart))},
	} {
		pairings()[1].tellsBothWays(t, c)
	}
}

func TestRangeMulRefuses(t *testing.T) {
	for _, c := range [][2]interval{
		// Low alone is too great, High alone, both.
		{wholes(-maxPart, 1), wholes(0, 2)}, {wholes(-maxPart/2-1, 1), wholes(0, 2)}, {wholes(-1, maxPart), wholes(0, 2)}, {wholes(-2, -1), wholes(-1, maxPart)}, {wholes(-2, -1), wholes(-maxPart, 1)}, {wholes(0, maxPart/2+1), wholes(1, 2)}, {wholes(-maxPart, maxPart), wholes(1, 2)},
		{wholes(-maxPart, maxPart), wholes(-maxPart, maxPart)}, {wholes(maxPart, maxPart), wholes(maxPart, maxPart)}, {wholes(-maxPart, -maxPart), wholes(-maxPart, -maxPart)}, {wholes(-maxPart, -maxPart), wholes(maxPart, maxPart)}, {wholes(0, 31623), wholes(0, 31623)},
		// By its D: at Low alone, at High alone, at both.
		{span(frac(1, maxPart), frac(1, 1)), span(frac(1, 2), frac(2, 1))}, {span(frac(-1, 1), frac(-1, maxPart)), span(frac(1, 2), frac(2, 1))}, {span(frac(1, maxPart), frac(1, maxPart)), span(frac(1, 2), frac(1, 2))}, {span(frac(-1, maxPart), frac(1, maxPart)), span(frac(0, 1), frac(1, 2))},
		{span(frac(0, 1), frac(1, maxPart)), span(frac(-1, 2), frac(1, 1))}, {span(frac(-1, maxPart), frac(0, 1)), span(frac(-1, 1), frac(1, 2))},
		// On the way alone: a product of two ends that would be no end.
		{span(frac(1, maxPart), frac(1, 1)), span(frac(1, 1), frac(3, 2))}, {span(frac(1, maxPart), frac(1, 1)), span(frac(-1, 2), frac(1, 1))}, {span(frac(-1, 1), frac(-1, maxPart)), span(frac(-3, 2), frac(-1, 1))}, {span(frac(1, 99991), frac(99989, 1)), span(frac(1, 2), frac(100003, 99989))},
	} {
		pairings()[1].refusesBothWays(t, c[0], c[1])
	}
}

func TestWithinTells(t *testing.T) {
	for _, c := range []struct {
		r    interval
		v    ratio
		want bool
	}{
		{wholes(-1, 2), frac(1, 3), true}, {wholes(-1, 2), frac(0, 1), true}, {wholes(-1, 2), frac(-1, 1), true}, {wholes(-1, 2), frac(2, 1), true}, {wholes(-1, 2), frac(3, 1), false}, {wholes(-1, 2), frac(-2, 1), false},
		// Just within and just outside either end.
		{wholes(0, 1), frac(-1, maxPart), false}, {wholes(0, 1), frac(1, maxPart), true}, {wholes(0, 1), frac(maxPart, maxPart-1), false}, {wholes(0, 1), frac(maxPart-1, maxPart), true}, {span(frac(1, 3), frac(1, 2)), frac(333333333, maxPart), false}, {span(frac(1, 3), frac(1, 2)), frac(333333334, 999999999), true},
		{span(frac(1, 3), frac(1, 2)), frac(500000000, 999999999), false}, {span(frac(1, 3), frac(1, 2)), frac(499999999, 999999999), true}, {span(frac(-1, 2), frac(-1, 3)), frac(-1, 3), true}, {span(frac(-1, 2), frac(-1, 3)), frac(-333333333, maxPart), false}, {span(frac(-1, 2), frac(-1, 3)), frac(-1, 2), true},
		{span(frac(-1, 2), frac(-1, 3)), frac(-500000000, 999999999), false}, {span(frac(-1, 2), frac(-1, 3)), frac(-2, 5), true}, {span(frac(-1, 2), frac(-1, 3)), frac(2, 5), false}, {span(frac(1, maxPart), frac(1, 999999999)), frac(1, maxPart), true}, {span(frac(1, maxPart), frac(1, 999999999)), frac(1, 999999999), true}, {span(frac(1, maxPart), frac(1, 999999999)), frac(1, 999999998), false},
		// One number alone, and all numbers.
		{wholes(7, 7), frac(7, 1), true}, {wholes(7, 7), frac(6, 1), false}, {wholes(7, 7), frac(8, 1), false}, {wholes(0, 0), frac(0, 1), true}, {wholes(0, 0), frac(1, maxPart), false}, {wholes(0, 0), frac(-1, maxPart), false}, {span(frac(-3, 2), frac(-3, 2)), frac(-3, 2), true}, {span(frac(-3, 2), frac(-3, 2)), frac(3, 2), false},
		{wholes(-maxPart, maxPart), frac(maxPart, 1), true}, {wholes(-maxPart, maxPart), frac(-maxPart, 1), true}, {wholes(-maxPart, maxPart-1), frac(maxPart, 1), false}, {wholes(1-maxPart, maxPart), frac(-maxPart, 1), false},
		// Neither in a Range that is none, nor of a number that is no fraction.
		{noInterval, frac(0, 1), false}, {noInterval, zero, false}, {wholes(-1, 2), zero, false}, {wholes(0, 0), zero, false}, {wholes(0, 1), frac(2, 4), false}, {wholes(0, 1), frac(0, 2), false}, {wholes(-1, 1), frac(1, -2), false}, {wholes(1, 1), frac(2, 2), false}, {wholes(0, 1), frac(1, maxPart+1), false},
		{wholes(2, 1), frac(1, 1), false}, {wholes(2, 1), frac(2, 1), false}, {wholes(2, 1), frac(3, 2), false}, {wholes(1, -1), frac(0, 1), false}, {span(zero, frac(1, 1)), frac(1, 2), false}, {span(frac(0, 1), zero), frac(0, 1), false}, {span(frac(2, 4), frac(1, 1)), frac(1, 1), false}, {wholes(0, maxPart+1), frac(1, 1), false},
	} {
		if got := impl.Within(c.r, c.v); got != c.want || checkWithin(t, c.r, c.v) != c.want {
			t.Errorf("Within(%v, %v): %v", c.r, c.v, got)
		}
	}
}

func TestMeetTells(t *testing.T) {
	for _, c := range [][3]interval{
		{wholes(-1, 2), wholes(1, 4), wholes(1, 2)}, {wholes(-4, -1), wholes(-2, 3), wholes(-2, -1)}, {span(frac(1, 3), frac(2, 3)), span(frac(1, 2), frac(1, 1)), span(frac(1, 2), frac(2, 3))},
		// One within the other, also with an end that is both's; the same.
		{wholes(-5, 5), wholes(1, 2), wholes(1, 2)}, {wholes(1, 5), wholes(1, 2), wholes(1, 2)}, {wholes(1, 5), wholes(4, 5), wholes(4, 5)}, {wholes(-2, 7), wholes(-2, 7), wholes(-2, 7)}, {wholes(-maxPart, maxPart), wholes(-3, -2), wholes(-3, -2)}, {wholes(0, 1), span(frac(1, 2), frac(1, 2)), span(frac(1, 2), frac(1, 2))},
		// They meet in one number.
		{wholes(-1, 2), wholes(2, 4), wholes(2, 2)}, {wholes(-3, 0), wholes(0, 3), wholes(0, 0)}, {wholes(7, 7), wholes(7, 7), wholes(7, 7)}, {wholes(7, 7), wholes(7, 9), wholes(7, 7)}, {wholes(7, 7), wholes(5, 7), wholes(7, 7)}, {span(frac(-1, 1), frac(-1, 3)), span(frac(-1, 3), frac(1, 1)), span(frac(-1, 3), frac(-1, 3))},
		{wholes(-maxPart, -maxPart), wholes(-maxPart, maxPart), wholes(-maxPart, -maxPart)}, {wholes(maxPart-1, maxPart), wholes(maxPart, maxPart), wholes(maxPart, maxPart)},
		// In as little as can be; what has a sum or a width that is too great is met as well.
		{span(frac(0, 1), frac(1, 999999999)), span(frac(1, maxPart), frac(1, 1)), span(frac(1, maxPart), frac(1, 999999999))}, {wholes(-maxPart, maxPart-1), wholes(1-maxPart, maxPart), wholes(1-maxPart, maxPart-1)},
	} {
		pairings()[2].tellsBothWays(t, c)
	}
}

func TestMeetRefuses(t *testing.T) {
	for _, c := range [][2]interval{
		{wholes(-1, 2), wholes(3, 4)}, {wholes(-4, -3), wholes(3, 4)}, {wholes(0, 0), wholes(1, 1)}, {wholes(-maxPart, -1), wholes(1, maxPart)}, {wholes(-maxPart, -maxPart), wholes(maxPart, maxPart)}, {span(frac(1, 3), frac(1, 2)), span(frac(2, 3), frac(1, 1))},
		// Apart by as little as can be.
		{span(frac(0, 1), frac(1, maxPart)), span(frac(1, 999999999), frac(1, 1))}, {span(frac(-1, 1), frac(-1, maxPart)), wholes(0, 1)}, {span(frac(-1, 1), frac(499999999, 999999999)), span(frac(1, 2), frac(1, 1))},
	} {
		pairings()[2].refusesBothWays(t, c[0], c[1])
	}
}

func TestWidthTells(t *testing.T) {
	for _, c := range []struct {
		r    interval
		want ratio
		is   bool
	}{
		{wholes(-1, 2), frac(3, 1), true}, {wholes(3, 4), frac(1, 1), true}, {wholes(-4, -2), frac(2, 1), true}, {wholes(0, 5), frac(5, 1), true}, {wholes(-5, 0), frac(5, 1), true}, {span(frac(1, 3), frac(1, 2)), frac(1, 6), true}, {span(frac(-1, 2), frac(-1, 3)), frac(1, 6), true}, {span(frac(-1, 2), frac(1, 3)), frac(5, 6), true},
		// One number has the width 0.
		{wholes(0, 0), frac(0, 1), true}, {wholes(-7, -7), frac(0, 1), true}, {span(frac(3, 2), frac(3, 2)), frac(0, 1), true}, {wholes(maxPart, maxPart), frac(0, 1), true}, {span(frac(-1, maxPart), frac(-1, maxPart)), frac(0, 1), true},
		// Just a fraction, and too great, by its N and by its D.
		{wholes(0, maxPart), frac(maxPart, 1), true}, {wholes(-maxPart, 0), frac(maxPart, 1), true}, {wholes(-maxPart/2, maxPart/2), frac(maxPart, 1), true}, {wholes(-1, maxPart-1), frac(maxPart, 1), true}, {wholes(-1, maxPart), zero, false}, {wholes(-maxPart, 1), zero, false}, {wholes(-maxPart, maxPart), zero, false},
		{span(frac(0, 1), frac(1, maxPart)), frac(1, maxPart), true}, {span(frac(1, maxPart), frac(1, 1)), frac(999999999, maxPart), true}, {span(frac(1, maxPart), frac(1, 3)), zero, false}, {span(frac(1, maxPart), frac(1, 999999999)), zero, false}, {span(frac(1, 31622), frac(1, 31621)), frac(1, 999919262), true}, {span(frac(1, 31624), frac(1, 31623)), zero, false},
		// Not as told.
		{noInterval, zero, false}, {wholes(2, 1), zero, false}, {wholes(1, 0), zero, false}, {span(frac(1, maxPart), frac(0, 1)), zero, false}, {span(zero, frac(1, 1)), zero, false}, {span(frac(1, 1), zero), zero, false}, {span(frac(2, 4), frac(1, 1)), zero, false}, {span(frac(0, 1), frac(2, 4)), zero, false}, {wholes(maxPart, maxPart+1), zero, false},
		{wholes(-maxPart-1, -maxPart), zero, false}, {wholes(math.MinInt64, math.MaxInt64), zero, false}, {wholes(math.MinInt64, math.MinInt64), zero, false},
	} {
		if got, is := impl.Width(c.r); got != c.want || is != c.is {
			t.Errorf("Width(%v): %v %v", c.r, got, is)
		}
		checkWidth(t, c.r)
	}
}

// holdsAll asks for each number of a with each of b: what is made of both is Within, and so is the answer's every end
// one that is made of two.
func holdsAll(t *testing.T, answer interval, by func(ratio, ratio) (ratio, bool), of []ratio, with []ratio) int {
	t.Helper()
	held, low, high := 0, false, false
	for _, x := range of {
		for _, y := range with {
			v, is := by(x, y)
			if !is {
				continue
			}
			held++
			low, high = low || v == answer.Low, high || v == answer.High
			if !impl.Within(answer, v) {
				t.Fatalf("%v, of %v and %v, is not within %v", v, x, y, answer)
			}
		}
	}
	if !low || !high {
		t.Fatalf("%v is not the least one", answer)
	}
	return held
}

// Promise 7: MOORE. Sums and products of what is Within are Within; and the Range is the least with all of them.
func TestMooreOfSmallRanges(t *testing.T) {
	numbers, held := smallRatios(4), 0
	inside := func(r interval) []ratio {
		var list []ratio
		for _, v := range numbers {
			if impl.Within(r, v) {
				list = append(list, v)
			}
		}
		return list
	}
	list := smallSpans()
	for _, a := range list {
		for _, b := range list {
			sums, sumsAre := impl.RangeAdd(a, b)
			products, productsAre := impl.RangeMul(a, b)
			if !sumsAre || !productsAre || !impl.RangeOk(sums) || !impl.RangeOk(products) {
				t.Fatalf("%v and %v: %v %v, %v %v", a, b, sums, sumsAre, products, productsAre)
			}
			held += holdsAll(t, sums, impl.Add, inside(a), inside(b))
			held += holdsAll(t, products, impl.Mul, inside(a), inside(b))
		}
	}
	if held < 100000 {
		t.Error("too few", held)
	}
}

// parted are both ends, and numbers between them.
func parted(r interval) []ratio {
	list := []ratio{r.Low, r.High}
	low, high, _ := exactSpan(r)
	for _, part := range []*big.Rat{big.NewRat(1, 2), big.NewRat(1, 3), big.NewRat(7, 8), big.NewRat(1, 1000)} {
		q := new(big.Rat).Sub(high, low)
		if v, is := fitted(q.Add(low, q.Mul(q, part))); is {
			list = append(list, v)
		}
	}
	if v, is := impl.Between(r.Low, r.High); is {
		list = append(list, v)
	}
	return list
}

func TestMooreOfChanceRanges(t *testing.T) {
	held, told := 0, 0
	chanceSpans(71, 30000, func(a interval, b interval) {
		checkPairs(t, a, b)
		if sums, is := impl.RangeAdd(a, b); is {
			held, told = held+holdsAll(t, sums, impl.Add, parted(a), parted(b)), told+1
		}
		if products, is := impl.RangeMul(a, b); is {
			held, told = held+holdsAll(t, products, impl.Mul, parted(a), parted(b)), told+1
		}
	})
	if held < 200000 || told < 20000 {
		t.Error("too few", held, told)
	}
}

// What Meet tells has just the numbers that are within both; where it says false, none is.
func TestMeetHasWhatIsInBoth(t *testing.T) {
	numbers, list := smallRatios(4), smallSpans()
	for _, a := range list {
		for _, b := range list {
			both, is := impl.Meet(a, b)
			if back, backIs := impl.Meet(b, a); back != both || backIs != is {
				t.Fatalf("Meet of %v and %v: %v, and back: %v", a, b, both, back)
			}
			for _, v := range numbers {
				if got := impl.Within(both, v); got != (impl.Within(a, v) && impl.Within(b, v)) {
					t.Fatalf("Meet(%v, %v): %v %v, and %v", a, b, both, is, v)
				}
			}
		}
	}
}

// Low and Width are High; sums are as wide as both together; who meets is no wider than either.
func TestWidthFits(t *testing.T) {
	told := 0
	chanceSpans(72, 30000, func(a interval, b interval) {
		wide, is := impl.Width(a)
		other, otherIs := impl.Width(b)
		if !checkWidth(t, a) || !is || !otherIs {
			return
		}
		if high, fits := impl.Add(a.Low, wide); !fits || high != a.High || wide.N < 0 {
			t.Fatalf("Width(%v): %v", a, wide)
		}
		sums, _ := impl.RangeAdd(a, b)
		all, allIs := impl.Width(sums)
		if want, fits := impl.Add(wide, other); fits && allIs && all != want {
			t.Fatalf("Width of %v and %v: %v, not %v", a, b, all, want)
		}
		both, _ := impl.Meet(a, b)
		if inner, innerIs := impl.Width(both); innerIs && (impl.Less(wide, inner) || impl.Less(other, inner)) {
			t.Fatalf("Width of what is in %v and %v: %v", a, b, inner)
		}
		told++
	})
	if told < 10000 {
		t.Error("too few", told)
	}
}
