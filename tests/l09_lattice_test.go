package tests

import (
	"math"
	"math/big"
	"slices"
	"testing"

	"loop.example/g00069/impl"
)

// edgeSpreads are met exactly by one limit or more.
func edgeSpreads() [][]point {
	return [][]point{
		points(0, 1), points(0, maxWeight), points(-maxAt, 1), points(maxAt, 1), points(-maxAt, maxWeight), points(maxAt, maxWeight), points(-1, 1), points(7, 999999),
		points(-maxAt, 1, maxAt, 1), points(-maxAt, 500000, maxAt, 500000), points(-maxAt, 999999, maxAt, 1), points(-1, 1, 0, maxWeight-1), points(0, 1, 1, 1), points(0, 333333, 1, 333333, 2, 333334),
		points(999, 1, maxAt, maxWeight-1), points(-maxAt, maxWeight-1, -999, 1),
		evenly(40, -maxAt, 1, 1), evenly(40, 961, 1, 25000), evenly(40, -maxAt, 51, 25000), evenly(40, -20, 1, 25000), evenly(39, -5, 3, 7),
	}
}

// noSpreads have each reason there is for a list to be none.
func noSpreads() [][]point {
	heavy := append(evenly(39, -maxAt, 51, 25000), point{At: maxAt, Weight: 25001})
	wrapped := points(0, math.MaxInt64, 1, math.MaxInt64, 2, 3)
	return [][]point{
		nil, {}, evenly(41, 0, 1, 1), evenly(41, -maxAt, 50, 1), make([]point, 1), make([]point, 40), make([]point, 100000), evenly(2001, -maxAt, 1, 1),
		// Not rising, alike; the last two, the first two, the ends.
		points(1, 1, 0, 1), points(1, 1, 1, 1), points(0, 1, 1, 1, 1, 1), points(0, 1, 0, 1, 1, 1), points(0, 1, 2, 1, 1, 1), points(1, 1, 0, 1, 2, 1), points(0, 1, 1, 1, 0, 1), points(3, 1, 2, 1, 1, 1), append(evenly(39, 0, 1, 1), points(38, 1)...), append(evenly(39, 0, 1, 1), points(37, 1)...),
		// Too far off.
		points(maxAt+1, 1), points(-maxAt-1, 1), points(-maxAt-1, 1, 0, 1), points(0, 1, maxAt+1, 1), evenly(40, 962, 1, 1), evenly(40, -maxAt-1, 1, 1),
		// Too light, too heavy, together too heavy.
		points(0, 0), points(0, -1), points(0, maxWeight+1), points(0, 1, 1, 0), points(0, 0, 1, 1), points(0, -1, 1, 2), points(0, 2, 1, -1), points(0, maxWeight, 1, 1), points(0, 1, 1, maxWeight), points(0, 500000, 1, 500001), points(0, 333334, 1, 333333, 2, 333334), points(0, maxWeight+1, 1, -1), heavy,
		// Sums that would come back as right ones.
		wrapped, points(0, math.MaxInt64, 1, math.MinInt64, 2, 2), points(0, math.MinInt64, 1, math.MinInt64, 2, 5), points(0, 1<<62, 1, 1<<62, 2, 1<<62, 3, 1<<62, 4, 9),
	}
}

func TestSpreadOkTells(t *testing.T) {
	for _, list := range edgeSpreads() {
		if !impl.SpreadOk(list) || !checkLattice(t, list) {
			t.Errorf("%v is refused", list)
		}
	}
	for _, list := range noSpreads() {
		if impl.SpreadOk(list) || checkLattice(t, list) {
			t.Errorf("%v is taken", list[:min(41, len(list))])
		}
	}
	if impl.MaxAt != maxAt || impl.MaxWeight != maxWeight {
		t.Error(impl.MaxAt, impl.MaxWeight)
	}
}

// As many points as there may be, and one more; At and Weight at each place as far as they go, and one farther.
func TestSpreadOkAtEachPlace(t *testing.T) {
	for n := range 45 {
		if got := checkLattice(t, evenly(n, -maxAt, 45, 22)); got != (n >= 1 && n <= 40) {
			t.Fatal(n, got)
		}
	}
	for _, n := range []int{1, 2, 3, 40} {
		for i := range n {
			for _, off := range []int64{-2, -1, 0, 1, 2} {
				list := evenly(n, -100, 2, 5)
				list[i].At += off
				fits := (off > -2 || i == 0) && (off < 2 || i == n-1)
				list[i].Weight = maxWeight - 5*int64(n-1)
				if got := checkLattice(t, list); got != fits {
					t.Fatal(list, got)
				}
				list[i].Weight++
				if checkLattice(t, list) {
					t.Fatal(list)
				}
			}
		}
	}
}

func TestWeightTells(t *testing.T) {
	for _, c := range []struct {
		list []point
		want int64
	}{
		{points(0, 1), 1}, {points(-maxAt, maxWeight), maxWeight}, {points(maxAt, 3), 3}, {points(1, 1, 2, 2, 3, 3), 6}, {points(-maxAt, 4, maxAt, 5), 9}, {evenly(40, -maxAt, 51, 25000), maxWeight}, {evenly(40, 0, 1, 1), 40},
		{nil, -1}, {evenly(41, 0, 1, 1), -1}, {points(0, 0), -1}, {points(0, maxWeight, 1, 1), -1}, {points(2, 1, 1, 1), -1},
	} {
		if got := impl.Weight(c.list); got != c.want {
			t.Errorf("Weight(%v): %d, not %d", c.list, got, c.want)
		}
	}
}

// A joinedCase has no want where the answer is false.
type joinedCase struct {
	a, b, want []point
}

func joinedCases() []joinedCase {
	die := evenly(3, 1, 1, 1)
	return []joinedCase{
		{points(2, 3), points(5, 7), points(7, 21)}, {points(2, 3), points(-5, 7), points(-3, 21)}, {points(0, 1), die, die}, {points(10, 2), die, evenly(3, 11, 1, 2)},
		// Sums that fall together: some, all but the ends, none; with gaps, and such that are found in another order.
		{die, die, points(2, 1, 3, 2, 4, 3, 5, 2, 6, 1)}, {points(0, 1, 1, 2), points(0, 3, 1, 4), points(0, 3, 1, 10, 2, 8)}, {points(0, 1, 10, 1), points(0, 1, 1, 1), points(0, 1, 1, 1, 10, 1, 11, 1)}, {points(0, 1, 1, 1), points(0, 1, 10, 1), points(0, 1, 1, 1, 10, 1, 11, 1)},
		{points(0, 1, 3, 5), points(0, 2, 3, 7), points(0, 2, 3, 17, 6, 35)}, {points(-5, 2, 5, 3), points(-5, 4, 5, 6), points(-10, 8, 0, 24, 10, 18)}, {points(0, 1, 1, 1, 100, 1), points(0, 1, 99, 1, 100, 1), points(0, 1, 1, 1, 99, 1, 100, 3, 101, 1, 199, 1, 200, 1)},
		// Forty sums and forty-one.
		{evenly(40, 0, 1, 1), points(3, 2), evenly(40, 3, 1, 2)}, {evenly(20, 0, 1, 1), points(0, 1, 20, 1), evenly(40, 0, 1, 1)}, {points(0, 1, 20, 1), evenly(20, 0, 1, 1), evenly(40, 0, 1, 1)}, {evenly(40, 0, 1, 1), points(0, 1, 1, 1), nil}, {points(0, 1, 1, 1), evenly(40, 0, 1, 1), nil},
		{evenly(39, 0, 1, 1), points(0, 1, 1, 1), slices.Concat(points(0, 1), evenly(38, 1, 1, 2), points(39, 1))}, {evenly(21, 0, 1, 1), evenly(21, 0, 1, 1), nil}, {evenly(40, -20, 1, 1), evenly(40, -20, 1, 1), nil}, {evenly(6, 0, 10, 1), evenly(7, 0, 1, 1), nil}, {evenly(5, 0, 10, 1), evenly(8, 0, 1, 1), slices.Concat(evenly(8, 0, 1, 1), evenly(8, 10, 1, 1), evenly(8, 20, 1, 1), evenly(8, 30, 1, 1), evenly(8, 40, 1, 1))},
		// At as far as it goes, and one farther; at one end alone, at both.
		{points(500, 1), points(500, 1), points(maxAt, 1)}, {points(500, 1), points(501, 1), nil}, {points(-500, 1), points(-500, 1), points(-maxAt, 1)}, {points(-500, 1), points(-501, 1), nil}, {points(maxAt, 1), points(0, 1), points(maxAt, 1)}, {points(maxAt, 1), points(1, 1), nil}, {points(maxAt, 2), points(-maxAt, 3), points(0, 6)}, {points(-maxAt, 2), points(-1, 3), nil},
		{points(0, 1, 500, 1), points(0, 1, 500, 1), points(0, 1, 500, 2, maxAt, 1)}, {points(0, 1, 500, 1), points(0, 1, 501, 1), nil}, {points(-500, 1, 0, 1), points(-501, 1, 0, 1), nil}, {points(-maxAt, 1, maxAt, 1), points(0, 5), points(-maxAt, 5, maxAt, 5)}, {points(-maxAt, 1, maxAt, 1), points(0, 5, 1, 5), nil}, {points(-maxAt, 1, maxAt, 1), points(-1, 5, 0, 5), nil}, {points(maxAt, 1), points(maxAt, 1), nil},
		// Weight as far as it goes, and one more; at one point, and all together.
		{points(0, 1000), points(0, 1000), points(0, maxWeight)}, {points(0, maxWeight), points(4, 1), points(4, maxWeight)}, {points(0, maxWeight), points(0, 2), nil}, {points(0, 101), points(0, 9901), nil}, {points(0, 100), points(0, 10000), points(0, maxWeight)}, {points(0, 100, 1, 1), points(0, 9901), nil}, {points(0, 1, 1, 100), points(0, 9900, 1, 1), nil},
		{points(0, 1, 1, 999), points(0, 400, 1, 600), points(0, 400, 1, 400200, 2, 599400)}, {points(0, 1, 1, 999), points(0, 400, 1, 601), nil}, {points(0, maxWeight), points(0, maxWeight), nil}, {evenly(40, 0, 1, 25000), evenly(40, 0, 1, 25000), nil}, {evenly(20, 0, 1, 50), evenly(20, 0, 1, 51), nil},
	}
}

func TestJoinedTells(t *testing.T) {
	for _, c := range joinedCases() {
		for _, pair := range [][2][]point{{c.a, c.b}, {c.b, c.a}} {
			if got, is := impl.Joined(pair[0], pair[1]); is != (c.want != nil) || !slices.Equal(got, c.want) {
				t.Errorf("Joined(%v, %v): %v %v, not %v", pair[0], pair[1], got, is, c.want)
			}
			checkJoined(t, pair[0], pair[1])
		}
	}
}

// Each number of sums around forty, of two spreads on one lattice and of such whose sums never fall together.
func TestJoinedOfEachSize(t *testing.T) {
	for n := 1; n <= 40; n++ {
		for m := 1; m <= 40; m++ {
			if is := checkJoined(t, evenly(n, -7, 3, 2), evenly(m, 5, 3, 3)); is != (n+m-1 <= 40) {
				t.Fatal(n, m, is)
			}
			if is := checkJoined(t, evenly(n, 0, 1, 1), evenly(m, -900, 40, 1)); is != (n*m <= 40) {
				t.Fatal(n, m, is)
			}
		}
	}
}

type momentCase struct {
	list []point
	want ratio // the zero Ratio where it is none
}

func TestMeanTells(t *testing.T) {
	for _, c := range []momentCase{
		// Whole, not whole, 0; below 0, too.
		{points(4, 9), frac(4, 1)}, {points(1, 1, 3, 1), frac(2, 1)}, {points(0, 1, 1, 1), frac(1, 2)}, {points(0, 2, 1, 1), frac(1, 3)}, {points(-1, 2, 0, 1), frac(-2, 3)}, {points(-1, 5, 1, 5), frac(0, 1)}, {points(0, 7), frac(0, 1)}, {points(-3, 2, 0, 50, 2, 3), frac(0, 1)}, {points(-7, 1, -5, 1), frac(-6, 1)},
		{evenly(40, 0, 1, 1), frac(39, 2)}, {evenly(40, -20, 1, 25000), frac(-1, 2)}, {points(2, 1, 3, 2, 4, 3, 5, 2, 6, 1), frac(4, 1)},
		// At the limits: a sum of At is nowhere greater than a fraction's part.
		{points(maxAt, 1), frac(maxAt, 1)}, {points(maxAt, maxWeight), frac(maxAt, 1)}, {points(-maxAt, maxWeight), frac(-maxAt, 1)}, {points(999, 1, maxAt, 999999), frac(999999999, maxWeight)}, {points(-maxAt, 999999, -999, 1), frac(-999999999, maxWeight)}, {points(-maxAt, 500000, maxAt, 500000), frac(0, 1)}, {points(-maxAt, 1, maxAt, 999999), frac(499999, 500)}, {points(0, 999999, 1, 1), frac(1, maxWeight)},
		{points(0, 1, 1, 0), zero}, {nil, zero},
	} {
		if got, is := impl.Mean(c.list); is != (c.want != zero) || got != c.want {
			t.Errorf("Mean(%v): %v %v, not %v", c.list, got, is, c.want)
		}
		checkMoments(t, c.list)
	}
}

func TestVaryTells(t *testing.T) {
	for _, c := range []momentCase{
		// Whole, not whole, 0.
		{points(-1, 1, 1, 1), frac(1, 1)}, {points(5, 1, 9, 1), frac(4, 1)}, {points(0, 1, 1, 1), frac(1, 4)}, {points(1, 1, 2, 1, 3, 1), frac(2, 3)}, {points(2, 1, 3, 2, 4, 3, 5, 2, 6, 1), frac(4, 3)}, {points(0, 2, 3, 1), frac(2, 1)}, {points(-3, 1, 0, 2), frac(2, 1)}, {points(0, 5), frac(0, 1)}, {points(7, 1), frac(0, 1)}, {points(-7, 3), frac(0, 1)}, {evenly(40, 0, 1, 1), frac(533, 4)},
		// The sum of weights times squares is no fraction's part, but what it comes to is.
		{points(maxAt, maxWeight), frac(0, 1)}, {points(-maxAt, maxWeight), frac(0, 1)}, {points(-maxAt, 500000, maxAt, 500000), frac(1000000, 1)}, {points(maxAt, 1001), frac(0, 1)}, {points(-maxAt, 1, maxAt, 1), frac(1000000, 1)}, {points(-maxAt, 1, maxAt, 3), frac(750000, 1)},
		// That quotient alone: its part just fits, and doesn't.
		{points(-maxAt, 500, 0, 1, maxAt, 500), frac(maxPart, 1001)}, {points(-maxAt, 501, 0, 1, maxAt, 501), zero},
		// Mean times Mean alone: its D just fits, and doesn't; its N just fits, and doesn't.
		{points(0, 31621, 1, 1), frac(31621, 999950884)}, {points(0, 31622, 1, 1), zero}, {points(316, 79, 317, 21), frac(1659, 10000)}, {points(316, 77, 317, 23), zero}, {points(-317, 23, -316, 77), zero},
		// The difference alone.
		{points(-1, 1, 0, 109987, 1, 12), zero},
		{points(0, 1, 0, 1), zero}, {nil, zero}, {points(0, 0), zero},
	} {
		if got, is := impl.Vary(c.list); is != (c.want != zero) || got != c.want {
			t.Errorf("Vary(%v): %v %v, not %v", c.list, got, is, c.want)
		}
		checkMoments(t, c.list)
	}
}

// What of Vary's way is too great in the cases above is that alone.
func TestVaryHasEachWayToBeTooGreat(t *testing.T) {
	for i, list := range [][]point{points(-maxAt, 501, 0, 1, maxAt, 501), points(0, 31622, 1, 1), points(316, 77, 317, 23), points(-1, 1, 0, 109987, 1, 12)} {
		mean := momentOf(list, func(at *big.Rat) *big.Rat { return at })
		squares, square := momentOf(list, squareOf), squareOf(mean)
		_, squaresIs := fitted(squares)
		_, squareIs := fitted(square)
		_, differenceIs := fitted(new(big.Rat).Sub(squares, square))
		if squaresIs != (i != 0) || squareIs != (i != 1 && i != 2) || differenceIs && i == 3 {
			t.Error(list, squares, square)
		}
	}
}

func TestInsideTells(t *testing.T) {
	list := points(-maxAt, 1, -5, 2, 0, 4, 5, 8, maxAt, 16)
	for _, c := range [][3]int64{
		// Both ends on a point, one of them, none; with nothing in between; of one number.
		{-5, 5, 14}, {-maxAt, maxAt, 31}, {-5, 0, 6}, {0, 5, 12}, {-4, 5, 12}, {-5, 4, 6}, {-6, 6, 14}, {-4, 4, 4}, {1, 4, 0}, {-999, -6, 0}, {-999, 999, 14}, {0, 0, 4}, {5, 5, 8}, {1, 1, 0}, {maxAt, maxAt, 16}, {-maxAt, -maxAt, 1},
		// Low above high.
		{5, -5, 0}, {0, -1, 0}, {1, 0, 0}, {maxAt, -maxAt, 0}, {math.MaxInt64, math.MinInt64, 0},
		// Beyond all.
		{-maxAt - 1, maxAt + 1, 31}, {maxAt + 1, maxAt + 2, 0}, {math.MinInt64, math.MaxInt64, 31}, {math.MinInt64, -maxAt, 1}, {math.MinInt64, -maxAt - 1, 0}, {maxAt, math.MaxInt64, 16}, {math.MinInt64, math.MinInt64, 0}, {math.MaxInt64, math.MaxInt64, 0}, {math.MinInt64, 0, 7}, {0, math.MaxInt64, 28},
	} {
		if got := impl.Inside(list, c[0], c[1]); got != c[2] {
			t.Errorf("Inside(%v, %d, %d): %d, not %d", list, c[0], c[1], got, c[2])
		}
	}
	for _, low := range append(edgeNumbers(), -maxAt-1, -maxAt, -999, maxAt-1, maxAt, maxAt+1) {
		for _, high := range append(edgeNumbers(), -maxAt-1, -maxAt, -999, maxAt-1, maxAt, maxAt+1) {
			for _, list := range edgeSpreads() {
				checkInside(t, list, low, high)
			}
		}
	}
}

func TestCoverTells(t *testing.T) {
	hill, even := points(1, 1, 2, 2, 3, 3, 4, 2, 5, 1), points(0, 1, 1, 1, 5, 1, 6, 1)
	for _, c := range []struct {
		list      []point
		part      ratio
		low, high int64
	}{
		// No part, all of it; of one point, of several.
		{hill, frac(0, 1), 1, 1}, {hill, frac(1, 1), 1, 5}, {points(7, 3), frac(0, 1), 7, 7}, {points(7, 3), frac(1, 1), 7, 7}, {points(-7, 3), frac(1, 2), -7, -7}, {points(-maxAt, 1, maxAt, 1), frac(1, 1), -maxAt, maxAt}, {points(-maxAt, 1, maxAt, 1), frac(0, 1), -maxAt, -maxAt}, {evenly(40, -20, 1, 1), frac(1, 1), -20, 19},
		// Met exactly, and passed by as little as can be.
		{hill, frac(1, 3), 3, 3}, {hill, frac(333333333, maxPart), 3, 3}, {hill, frac(333333337, maxPart), 2, 3}, {hill, frac(5, 9), 2, 3}, {hill, frac(7, 9), 2, 4}, {hill, frac(8, 9), 1, 4}, {hill, frac(1, 9), 1, 1}, {hill, frac(2, 9), 2, 2}, {hill, frac(3, 10), 3, 3}, {even, frac(1, 2), 0, 1}, {even, frac(499999999, maxPart), 0, 1}, {even, frac(500000001, maxPart), 0, 5},
		// Of alike ones the first, also where a later one has more.
		{even, frac(1, 4), 0, 0}, {even, frac(3, 4), 0, 5}, {points(0, 1, 1, 1, 5, 1, 6, 2), frac(2, 5), 6, 6}, {points(0, 1, 1, 1, 5, 1, 6, 2, 7, 1), frac(1, 3), 6, 6}, {points(0, 2, 1, 2, 2, 1, 3, 3), frac(1, 2), 0, 1}, {points(0, 1, 1, 5), frac(1, 6), 0, 0},
		// The shortest has more points than a longer one, comes first, comes last.
		{points(0, 4, 10, 4, 11, 2, 12, 2), frac(7, 12), 10, 12}, {points(0, 2, 1, 2, 2, 4, 12, 4), frac(7, 12), 0, 2}, {points(0, 3, 3, 3, 5, 3), frac(2, 3), 3, 5}, {points(0, 3, 2, 3, 5, 3), frac(2, 3), 0, 2}, {points(-maxAt, 1, 998, 1, maxAt, 1), frac(2, 3), 998, maxAt},
		// Part of Weight is no right fraction, but it is held against the weights all the same.
		{points(0, 999999, 1, 1), frac(999999999, maxPart), 0, 1}, {points(0, 999999, 1, 1), frac(999999, 1000000), 0, 0}, {points(0, 1, 1, 999998), frac(999998999, maxPart), 1, 1}, {points(0, 1, 1, 999998), frac(999999001, maxPart), 0, 1}, {points(0, 1, 1, 999998), frac(999999999, maxPart), 0, 1}, {points(0, 1, 1, 999998), frac(1, maxPart), 0, 0},
	} {
		if low, high, is := impl.Cover(c.list, c.part); !is || low != c.low || high != c.high {
			t.Errorf("Cover(%v, %v): %d %d %v, not %d %d", c.list, c.part, low, high, is, c.low, c.high)
		}
		checkCoverOf(t, c.list, c.part)
	}
}

// Each part that is met exactly by some stretch, and the next ones on either side of it.
func TestCoverOfEachPart(t *testing.T) {
	chanceLists(94, 30, func(list []point) {
		for _, s := range stretches(list)[:min(200, len(list)*(len(list)+1)/2)] {
			met, _ := fitted(big.NewRat(s.weight, impl.Weight(list)))
			for _, part := range []ratio{met, neighbour(met, 1, maxPart), neighbour(met, -1, maxPart)} {
				checkCoverOf(t, list, part)
			}
		}
	})
}

func TestLatticesAreExact(t *testing.T) {
	varies := map[bool]int{}
	chanceLists(91, 1000, func(list []point) {
		if !checkLattice(t, list) {
			t.Fatal(list)
		}
		_, is := impl.Vary(list)
		varies[is]++
	})
	joined := map[bool]int{}
	chancePairs(92, 3000, func(a []point, b []point) { joined[checkJoined(t, a, b)]++ })
	if varies[true] < 200 || varies[false] < 200 || joined[true] < 500 || joined[false] < 500 {
		t.Error("too few", varies, joined)
	}
}

// Promise 9: Weights of Joined are products.
func TestWeightsOfJoinedAreProducts(t *testing.T) {
	told := 0
	tell := func(a []point, b []point) {
		joined, is := impl.Joined(a, b)
		if !is {
			return
		}
		if told++; impl.Weight(joined) != impl.Weight(a)*impl.Weight(b) || !impl.SpreadOk(joined) {
			t.Fatalf("%v and %v: %v, of %d", a, b, joined, impl.Weight(joined))
		}
	}
	chancePairs(95, 3000, tell)
	for _, a := range edgeSpreads() {
		for _, b := range append(edgeSpreads(), points(0, 1), points(0, 2)) {
			tell(a, b)
		}
	}
	if told < 500 {
		t.Error("too few", told)
	}
}

// Promise 9: Means and Varys go with sums: those of the sums are the sums of those of both.
func TestMeansAndVarysGoWithSums(t *testing.T) {
	var told [2]int
	chancePairs(96, 6000, func(a []point, b []point) {
		joined, is := impl.Joined(a, b)
		if !is {
			return
		}
		for i, tell := range []func([]point) (ratio, bool){impl.Mean, impl.Vary} {
			of, ofIs := tell(a)
			by, byIs := tell(b)
			both, bothIs := tell(joined)
			sum, sumIs := impl.Add(of, by)
			if !ofIs || !byIs || !bothIs {
				continue
			}
			if !sumIs || both != sum {
				t.Fatalf("%d of %v and %v: %v, not %v and %v", i, a, b, both, of, by)
			}
			told[i]++
		}
	})
	if told[0] < 1000 || told[1] < 500 {
		t.Error("too few", told)
	}
}

// farOff is the weight of those that are at least so far from mean: all but those inside.
func farOff(list []point, mean *big.Rat, far *big.Rat) int64 {
	low, high := new(big.Rat).Sub(mean, far), new(big.Rat).Add(mean, far)
	high.Neg(high)
	first := new(big.Int).Div(low.Num(), low.Denom()).Int64() + 1
	last := -new(big.Int).Div(high.Num(), high.Denom()).Int64() - 1
	return impl.Weight(list) - impl.Inside(list, first, last)
}

// Promise 9, CHEBYSHEV: how many lie as far off as that, times the square of that, is no more than Vary times Weight.
func TestChebyshev(t *testing.T) {
	told, just := 0, 0
	tell := func(list []point) {
		mean, meanIs := impl.Mean(list)
		vary, is := impl.Vary(list)
		if !meanIs || !is {
			return
		}
		if vary.N < 0 || (vary.N == 0) != (len(list) == 1) {
			t.Fatalf("Vary(%v): %v", list, vary)
		}
		middle := big.NewRat(mean.N, mean.D)
		most := new(big.Rat).Mul(big.NewRat(vary.N, vary.D), big.NewRat(impl.Weight(list), 1))
		fars := []*big.Rat{big.NewRat(1, 3), big.NewRat(1, 1), big.NewRat(5, 2), big.NewRat(100, 7), big.NewRat(2*maxAt, 1)}
		for _, p := range list {
			far := new(big.Rat).Sub(big.NewRat(p.At, 1), middle)
			fars = append(fars, far.Abs(far))
		}
		for _, far := range fars {
			weight := farOff(list, middle, far)
			off := new(big.Rat).Mul(squareOf(far), big.NewRat(weight, 1))
			if off.Cmp(most) > 0 {
				t.Fatalf("%v: %d lie %v off, but Vary is %v", list, weight, far, vary)
			}
			if told++; off.Sign() > 0 && off.Cmp(most) == 0 {
				just++
			}
		}
	}
	chanceLists(97, 3000, tell)
	chancePairs(98, 500, func(a []point, b []point) {
		joined, is := impl.Joined(a, b)
		if is {
			tell(joined)
		}
	})
	for _, list := range append(edgeSpreads(), points(-3, 1, 0, 7, 3, 1), points(10, 2, 20, 50, 30, 2)) {
		tell(list)
	}
	if told < 5000 || just < 20 {
		t.Error("too few", told, just)
	}
}
