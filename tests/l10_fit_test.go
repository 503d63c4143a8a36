package tests

import (
	"math"
	"math/big"
	"math/rand"
	"slices"
	"testing"

	"loop.example/g00069/impl"
)

// spotsOf has the numbers of both rows beside each other.
func spotsOf(xs []ratio, ys []ratio) []spot {
	var list []spot
	for i, x := range xs {
		list = append(list, spot{X: x, Y: ys[i]})
	}
	return list
}

// spotsOn are n marks from x on, each one behind the last by 1, and y what tell tells of x.
func spotsOn(n int, x int64, tell func(int64) int64) []spot {
	list := []spot{}
	for i := range int64(n) {
		list = append(list, spot{X: frac(x+i, 1), Y: frac(tell(x+i), 1)})
	}
	return list
}

func TestSpotsOkTells(t *testing.T) {
	for _, list := range [][]spot{
		spots(0, 0, 0, 0), spots(0, 1, 1, 2), spots(1, 2, 0, 1), spots(3, 1, 3, 2), make([]spot, 2), spots(maxPart, -maxPart, -maxPart, maxPart), spotsOf([]ratio{frac(1, 2), frac(1, maxPart)}, []ratio{frac(-1, maxPart), frac(-2, 3)}), spotsOn(12, -5, func(x int64) int64 { return x }),
		spotsOf([]ratio{frac(1, 2), frac(2, 4)}, whole(0, 0)), spots(0, 0, 0, maxPart+1), spots(-maxPart-1, 0, 0, 0), nil, {}, spots(0, 0), spots(maxPart, 1), spotsOn(13, 0, func(x int64) int64 { return x }), make([]spot, 100000),
	} {
		_, want := exactSpots(list)
		if got := impl.SpotsOk(list); got != want {
			t.Errorf("SpotsOk(%v): %v", list[:min(13, len(list))], got)
		}
	}
	for n := range 20 {
		if got := checkSpots(t, spotsOn(n, 0, func(x int64) int64 { return -x })); got != (n >= 2 && n <= 12) {
			t.Error(n, got)
		}
	}
}

type curveCase struct {
	curve []ratio
	x     ratio
	want  ratio // the zero Ratio where it is none
}

func TestCurveAtTells(t *testing.T) {
	for _, c := range []curveCase{
		{whole(1, 2, 3), frac(2, 1), frac(17, 1)}, {whole(1, 2, 3), frac(-2, 1), frac(9, 1)}, {whole(3, 2, 1), frac(2, 1), frac(11, 1)}, {whole(4, 3, 2, 1), frac(10, 1), frac(1234, 1)}, {whole(4, 3, 2, 1), frac(-10, 1), frac(-826, 1)}, {[]ratio{frac(1, 2), frac(1, 3)}, frac(3, 2), frac(1, 1)}, {[]ratio{frac(1, 2), frac(-1, 3), frac(1, 4)}, frac(2, 5), frac(61, 150)},
		// Of one number, wherever it is; of noughts alone; where x is 0.
		{whole(7), frac(3, 1), frac(7, 1)}, {whole(-7), frac(0, 1), frac(-7, 1)}, {whole(maxPart), frac(maxPart, 1), frac(maxPart, 1)}, {[]ratio{frac(1, maxPart)}, frac(1, maxPart), frac(1, maxPart)}, {make0(1), frac(5, 1), frac(0, 1)}, {make0(4), frac(maxPart, 1), frac(0, 1)}, {make0(4), frac(-1, maxPart), frac(0, 1)},
		{whole(7, 1, 2, 3), frac(0, 1), frac(7, 1)}, {whole(-7, maxPart, -maxPart, maxPart), frac(0, 1), frac(-7, 1)}, {whole(0, 5), frac(0, 1), frac(0, 1)},
		// The highest numbers are 0, where the power of x would be too great.
		{whole(5, 3, 0, 0), frac(40000, 1), frac(120005, 1)}, {whole(5, 0, 0, 0), frac(maxPart, 1), frac(5, 1)}, {whole(5, 3, 2, 0), frac(2, 1), frac(19, 1)}, {whole(0, 1, 0, 0), frac(1, maxPart), frac(1, maxPart)},
		// No power of x is on the way, but what there is times x.
		{[]ratio{frac(0, 1), frac(0, 1), frac(1, 40000)}, frac(40000, 1), frac(40000, 1)}, {[]ratio{frac(0, 1), frac(0, 1), frac(0, 1), frac(1, maxPart)}, frac(10000, 1), frac(1000, 1)}, {whole(0, -maxPart, 1), frac(maxPart, 1), frac(0, 1)}, {whole(7, 0, -maxPart, 1), frac(maxPart, 1), frac(7, 1)}, {whole(0, 0, 40000), frac(1, 40000), frac(1, 40000)},
		// Just fractions, and too great in the last step alone: in its sum, in its product.
		{whole(0, 0, 0, 1), frac(1000, 1), frac(maxPart, 1)}, {whole(0, 0, 0, 1), frac(-1000, 1), frac(-maxPart, 1)}, {whole(-1, 0, 0, 1), frac(1000, 1), frac(maxPart-1, 1)}, {whole(1, 0, 0, 1), frac(1000, 1), zero}, {whole(-1, 0, 0, 1), frac(-1000, 1), zero}, {whole(maxPart-6, 3), frac(2, 1), frac(maxPart, 1)}, {whole(maxPart-5, 3), frac(2, 1), zero},
		{whole(0, 0, 1), frac(31622, 1), frac(999950884, 1)}, {whole(0, 0, 1), frac(31623, 1), zero}, {whole(0, 2), frac(halfPart, 1), frac(maxPart, 1)}, {whole(0, 2), frac(halfPart+1, 1), zero}, {whole(-maxPart, 2), frac(halfPart+1, 1), zero}, {whole(0, 0, 1), frac(1, 31622), frac(1, 999950884)}, {whole(0, 0, 1), frac(1, 31623), zero}, {[]ratio{frac(0, 1), frac(1, 2)}, frac(1, halfPart), frac(1, maxPart)}, {[]ratio{frac(0, 1), frac(1, 2)}, frac(1, halfPart+1), zero}, {[]ratio{frac(1, 2), frac(1, 1)}, frac(1, maxPart-1), zero}, {[]ratio{frac(1, 2), frac(1, 1)}, frac(1, halfPart), frac(halfPart/2+1, halfPart)},
		// Too great on the way to an end that would be right: in the first product, in the first sum, in the second ones.
		{whole(-maxPart, 0, halfPart), frac(2, 1), zero}, {whole(0, -maxPart, halfPart, 1), frac(2, 1), zero}, {whole(0, -maxPart, maxPart), frac(2, 1), zero}, {whole(-1, 1, maxPart), frac(1, 1), zero}, {whole(0, -1, 1, maxPart), frac(1, 1), zero}, {[]ratio{frac(0, 1), frac(1, 3), frac(1, maxPart)}, frac(3, 1), zero}, {[]ratio{frac(0, 1), frac(0, 1), frac(1, maxPart)}, frac(1, 2), zero}, {whole(0, 0, maxPart), frac(maxPart, maxPart-1), zero},
		{nil, frac(1, 1), zero}, {whole(), frac(0, 1), zero}, {make0(5), frac(0, 1), zero}, {whole(1, 2, 3, 4, 0), frac(1, 1), zero}, {make0(100000), frac(1, 1), zero}, {whole(1, 2), zero, zero}, {whole(5), zero, zero}, {whole(0), frac(2, 4), zero}, {[]ratio{frac(1, 1), frac(2, 4)}, frac(0, 1), zero}, {[]ratio{zero, frac(1, 1)}, frac(1, 1), zero},
	} {
		if got, is := impl.CurveAt(c.curve, c.x); is != (c.want != zero) || got != c.want {
			t.Errorf("CurveAt(%v, %v): %v %v, not %v", c.curve, c.x, got, is, c.want)
		}
		checkCurveAt(t, c.curve, c.x)
	}
}

type missCase struct {
	curve []ratio
	list  []spot
	want  ratio // the zero Ratio where it is none
}

func TestMissTells(t *testing.T) {
	comesBack := []ratio{frac(3, 31580), frac(1, 8), frac(1, 7895)} // the squares of the outer ones together have a less D than each
	for _, c := range []missCase{
		{[]ratio{frac(5, 6), frac(3, 2)}, spots(0, 1, 1, 2, 2, 4), frac(1, 6)}, {whole(0), spots(0, 1, 1, 2, 2, 4), frac(21, 1)}, {whole(1, 1), spots(0, 1, 1, 2, 2, 4), frac(1, 1)}, {whole(2, 1), spots(0, 1, 1, 2, 2, 4), frac(2, 1)}, {whole(0, 0, 1), spots(3, 0, -3, 9), frac(81, 1)}, {[]ratio{frac(1, 2)}, spotsOf(whole(1, 2), []ratio{frac(1, 3), frac(-1, 3)}), frac(13, 18)},
		// None; twelve marks; alike X, the same mark twice.
		{whole(1, 1), spots(0, 1, 1, 2), frac(0, 1)}, {whole(0, 0, 0, 1), spotsOn(12, -5, func(x int64) int64 { return x * x * x }), frac(0, 1)}, {whole(1, 0, 0, 1), spotsOn(12, -5, func(x int64) int64 { return x * x * x }), frac(12, 1)}, {whole(0), spotsOn(12, 1, func(x int64) int64 { return x }), frac(650, 1)}, {whole(2), spots(1, 1, 1, 3), frac(2, 1)}, {whole(2), spots(1, 1, 1, 1), frac(2, 1)}, {make0(4), spots(maxPart, 3, -maxPart, -4), frac(25, 1)},
		// Just fractions, and too great in the last sum alone, in the last square alone.
		{whole(0), spots(0, 31600, 1, 1200), frac(maxPart, 1)}, {whole(0), spots(0, 31600, 1, 1200, 2, 0), frac(maxPart, 1)}, {whole(0), spots(0, 31600, 1, 1200, 2, 1), zero}, {whole(0), spots(0, -31600, 1, 1200, 2, -1), zero}, {whole(-100), spots(0, 31500, 5, 1100), frac(maxPart, 1)}, {whole(0, 1), spots(0, 31600, 5, 1205), frac(maxPart, 1)}, {whole(0), spots(0, 31622, 1, 0), frac(999950884, 1)}, {whole(0), spots(0, 0, 1, 31623), zero}, {whole(0), spots(0, 31623, 1, 0), zero}, {whole(0), spots(0, 0, 1, -31623), zero},
		{whole(0), spotsOf(whole(0, 1), []ratio{frac(0, 1), frac(1, 31622)}), frac(1, 999950884)}, {whole(0), spotsOf(whole(0, 1), []ratio{frac(0, 1), frac(1, 31623)}), zero}, {whole(0), spotsOf(whole(0, 1), []ratio{frac(1, 31622), frac(1, 1)}), frac(999950885, 999950884)}, {whole(0), spotsOf(whole(0, 1), []ratio{frac(1, 31622), frac(1, 3)}), zero},
		// A sum on the way alone: in another order it is told.
		{whole(0), spotsOf(whole(0, 1, 2), comesBack), zero}, {whole(0), spotsOf(whole(0, 1, 2), []ratio{comesBack[0], comesBack[2], comesBack[1]}), frac(2493245, 159567424)},
		// In CurveAt alone, at the first mark, at the last one; in the difference.
		{whole(-maxPart, 0, halfPart), spots(2, maxPart, 0, -maxPart), zero}, {whole(-maxPart, 0, halfPart), spots(0, -maxPart, 2, maxPart), zero}, {whole(-maxPart, 0, halfPart), spots(0, -maxPart, -1, -halfPart), frac(0, 1)}, {whole(0, 0, 1), spots(31623, 0, 0, 0), zero}, {whole(-1), spots(0, -1, 0, maxPart), zero}, {whole(maxPart), spots(0, maxPart, 1, maxPart), frac(0, 1)},
		{nil, spots(0, 1, 1, 2), zero}, {make0(5), spots(0, 1, 1, 2), zero}, {whole(1), nil, zero}, {whole(1), spots(0, 1), zero}, {whole(1), spotsOn(13, 0, func(x int64) int64 { return 1 }), zero}, {whole(0), make([]spot, 2), zero}, {[]ratio{frac(2, 4)}, spots(0, 1, 1, 2), zero},
	} {
		if got, is := impl.Miss(c.curve, c.list); is != (c.want != zero) || got != c.want {
			t.Errorf("Miss(%v, %v): %v %v, not %v", c.curve, c.list, got, is, c.want)
		}
		checkCurve(t, c.curve, c.list)
	}
}

// A fitCase has no want where the answer is false.
type fitCase struct {
	list []spot
	n    int64
	want []ratio
}

func fitCases() []fitCase {
	three, cubes := spots(0, 1, 1, 2, 2, 4), spotsOn(4, 0, func(x int64) int64 { return x * x * x })
	around := slices.Concat(spotsOn(4, -1, func(x int64) int64 { return x*x*x + x - 1 }), spotsOn(4, -1, func(x int64) int64 { return x*x*x + x }), spotsOn(4, -1, func(x int64) int64 { return x*x*x + x + 1 }))
	line := spotsOn(12, -5, func(x int64) int64 { return 2*x + 1 })
	return []fitCase{
		{three, 1, []ratio{frac(7, 3)}}, {three, 2, []ratio{frac(5, 6), frac(3, 2)}}, {three, 3, []ratio{frac(1, 1), frac(1, 2), frac(1, 2)}}, {three, 4, nil},
		// As many marks as numbers: through them; fewer marks, and more.
		{spots(0, 1, 1, 2), 1, []ratio{frac(3, 2)}}, {spots(0, 1, 1, 2), 2, whole(1, 1)}, {spots(1, 2, 0, 1), 2, whole(1, 1)}, {spots(0, 1, 1, 2), 3, nil}, {spots(0, 1, 1, 2), 4, nil}, {cubes, 4, whole(0, 0, 0, 1)}, {cubes, 3, []ratio{frac(3, 10), frac(-47, 10), frac(9, 2)}}, {cubes, 2, []ratio{frac(-21, 5), frac(44, 5)}}, {cubes, 1, whole(9)}, {spotsOn(4, -1, func(x int64) int64 { return x*x*x + 1 }), 4, whole(1, 0, 0, 1)}, {spotsOn(5, -2, func(x int64) int64 { return x * x }), 4, whole(0, 0, 1, 0)},
		// Twelve marks, some through which a curve goes, and some through which none goes.
		{line, 1, whole(2)}, {line, 2, whole(1, 2)}, {around, 4, whole(0, 1, 0, 1)}, {around, 1, []ratio{frac(5, 2)}}, {spotsOn(12, 7, func(x int64) int64 { return 3 }), 2, whole(3, 0)}, {make0Spots(12), 1, whole(0)}, {make0Spots(12), 2, nil},
		// Alike X: just one curve, and not just one.
		{spots(0, 1, 0, 3), 1, whole(2)}, {spots(0, 1, 0, 3), 2, nil}, {spots(2, 5, 2, 5), 1, whole(5)}, {spots(2, 5, 2, 5), 2, nil}, {spots(0, 1, 0, 3, 1, 2), 2, whole(2, 0)}, {spots(0, 1, 0, 3, 1, 2), 3, nil}, {spots(0, 1, 0, 2, 1, 3, 1, 5), 2, []ratio{frac(3, 2), frac(5, 2)}}, {spots(0, 1, 0, 2, 1, 3, 1, 5), 3, nil}, {spots(1, 1, 1, 1, 2, 2), 2, whole(0, 1)}, {spots(1, 1, 1, 1, 2, 2), 3, nil}, {append(three, three...), 3, []ratio{frac(1, 1), frac(1, 2), frac(1, 2)}}, {append(three, three...), 4, nil}, {spots(-1, 0, -1, 2, 0, 0, 1, 4, 1, 0), 3, []ratio{frac(0, 1), frac(1, 2), frac(3, 2)}}, {append(cubes, cubes...), 4, whole(0, 0, 0, 1)}, {slices.Repeat(spots(5, 1, 5, 2, 5, 3), 4), 1, whole(2)}, {slices.Repeat(spots(5, 1, 5, 2, 5, 3), 4), 2, nil},
		{spotsOf([]ratio{frac(1, 2), frac(1, 3)}, []ratio{frac(1, 3), frac(1, 2)}), 2, []ratio{frac(5, 6), frac(-1, 1)}}, {spotsOf([]ratio{frac(-1, 2), frac(1, 2), frac(3, 2)}, whole(1, 1, 5)), 3, []ratio{frac(1, 2), frac(0, 1), frac(2, 1)}},
		// n 1 asks for no power of x but 0; n 2 for those up to 2, which just fit, or don't, by themselves or together.
		{spots(maxPart, 1, -maxPart, 3), 1, whole(2)}, {spots(maxPart, 1, -maxPart, 3), 2, nil}, {spots(31622, 5, 0, 5), 2, whole(5, 0)}, {spots(31623, 5, 0, 5), 2, nil}, {spots(0, 5, -31623, 5), 2, nil}, {spots(31600, 1, -1200, 1), 2, whole(1, 0)}, {spots(31600, 1, -1200, 1, 1, 1), 2, nil}, {spots(31600, 1, -1201, 1), 2, nil}, {spotsOf([]ratio{frac(1, 31622), frac(0, 1)}, whole(3, 3)), 1, whole(3)}, {spotsOf([]ratio{frac(1, 31623), frac(0, 1)}, whole(3, 3)), 2, nil},
		// The sums of y: just fractions, too great, on the way alone.
		{spots(0, maxPart, 0, 0), 1, whole(halfPart)}, {spots(0, maxPart-1, 0, 1), 1, whole(halfPart)}, {spots(0, maxPart, 0, 1), 1, nil}, {spots(0, -maxPart, 0, -1), 1, nil}, {spots(0, maxPart, 0, 1, 0, -1), 1, nil}, {spots(0, maxPart, 0, -1, 0, 1), 1, []ratio{frac(maxPart, 3)}}, {spots(0, -1, 0, maxPart), 1, []ratio{frac(maxPart-1, 2)}},
		// Those of x times y alone.
		{spots(2, halfPart, 0, 0), 2, whole(0, halfPart/2)}, {spots(2, halfPart+1, 0, 0), 2, nil}, {spots(2, halfPart+1, 0, 0), 1, []ratio{frac(halfPart+1, 2)}}, {spots(2, halfPart/2, 1, halfPart+1, 0, 0), 2, nil}, {spots(2, halfPart/2, 1, halfPart+1, 0, 0), 1, []ratio{frac(750000001, 3)}},
		// The last step of all alone: a quotient, a difference.
		{spotsOf(whole(0, 0), []ratio{frac(1, halfPart), frac(0, 1)}), 1, []ratio{frac(1, maxPart)}}, {spotsOf(whole(0, 0), []ratio{frac(1, halfPart+1), frac(0, 1)}), 1, nil}, {spotsOf(whole(0, 0), []ratio{frac(0, 1), frac(1, maxPart)}), 1, nil}, {spots(1, 600000000, 3, -200000000), 2, whole(maxPart, -400000000)}, {spots(1, 600000001, 3, -199999999), 2, nil}, {spots(1, 700000000, 3, -300000000), 2, nil},
		{three, 0, nil}, {three, -1, nil}, {three, 5, nil}, {line, 5, nil}, {line, math.MaxInt64, nil}, {line, math.MinInt64, nil}, {line, 1 << 32, nil}, {line, 1<<32 + 1, nil}, {nil, 1, nil}, {spots(0, 1), 1, nil}, {spotsOn(13, 0, func(x int64) int64 { return x }), 1, nil}, {spotsOf([]ratio{zero, frac(1, 1)}, whole(1, 2)), 1, nil}, {spotsOf([]ratio{frac(2, 4), frac(1, 1)}, whole(1, 2)), 1, nil}, {spotsOf(whole(1, 2), []ratio{frac(1, 1), frac(1, -1)}), 1, nil},
	}
}

func make0Spots(n int) []spot { return spotsOf(make0(n), make0(n)) }

func TestFittedTells(t *testing.T) {
	for _, c := range fitCases() {
		if got, is := impl.Fitted(c.list, c.n); is != (c.want != nil) || !slices.Equal(got, c.want) {
			t.Errorf("Fitted(%v, %d): %v %v, not %v", c.list, c.n, got, is, c.want)
		}
		checkFitted(t, c.list, c.n)
		checkFits(t, c.list)
	}
}

type normalCase struct {
	curve []ratio
	list  []spot
	want  []ratio // nil where it is none
}

func normalCases() []normalCase {
	three := spots(0, 1, 1, 2, 2, 4)
	return []normalCase{
		{[]ratio{frac(5, 6), frac(3, 2)}, three, whole(0, 0)}, {whole(0), three, whole(7)}, {whole(0, 0), three, whole(7, 10)}, {make0(3), three, whole(7, 10, 18)}, {make0(4), three, whole(7, 10, 18, 34)}, {whole(1, 1), three, whole(1, 2)}, {whole(9), three, whole(-20)}, {whole(0, 0, 1), three, whole(2, 1, 1)}, {whole(1, 0), three, whole(4, 7)},
		{whole(0, 0, 0, 0), spots(-2, 1, 3, -1), whole(0, -5, -5, -35)}, {[]ratio{frac(1, 2), frac(0, 1)}, spotsOf([]ratio{frac(1, 2), frac(-1, 3)}, whole(1, 1)), []ratio{frac(1, 1), frac(1, 12)}},
		// Alike X; twelve marks; x that is 0 has the power 0 alone.
		{whole(2), spots(5, 1, 5, 3), whole(0)}, {whole(2, 0), spots(5, 1, 5, 4), whole(1, 5)}, {make0(4), spotsOn(12, -5, func(x int64) int64 { return 1 }), whole(12, 6, 146, 216)}, {make0(4), spots(0, 3, 0, 4), whole(7, 0, 0, 0)}, {whole(7, 1, 2, 3), spots(0, 3, 0, 4), whole(-7, 0, 0, 0)},
		// Just fractions, and too great in the last sum alone; in the last product alone.
		{whole(0, 0), spots(2, halfPart, 0, 0), whole(halfPart, maxPart)}, {whole(0), spots(2, halfPart+1, 0, 0), whole(halfPart + 1)}, {whole(0, 0), spots(0, 0, 2, halfPart+1), nil}, {whole(0), spots(1, maxPart-1, 1, 1), whole(maxPart)}, {whole(0), spots(1, maxPart, 1, 1), nil}, {whole(0), spots(1, -maxPart, 1, -1), nil}, {whole(0, 0), spots(2, halfPart/2, 1, halfPart), whole(750000000, maxPart)}, {whole(0, 0), spots(2, halfPart/2, 1, halfPart+1), nil}, {whole(0), spots(2, halfPart/2, 1, halfPart+1), whole(750000001)}, {make0(4), spots(0, 0, 1000, 1), whole(1, 1000, 1000000, maxPart)}, {make0(4), spots(1000, 1, 1, 1), nil}, {make0(3), spots(1000, 1, 1, 1), whole(2, 1001, 1000001)},
		{whole(0), spotsOf(whole(0, 1), []ratio{frac(1, maxPart), frac(1, 2)}), []ratio{frac(halfPart+1, maxPart)}}, {whole(0), spotsOf(whole(0, 1), []ratio{frac(1, maxPart), frac(1, 3)}), nil}, {whole(0, 0), spotsOf([]ratio{frac(1, halfPart), frac(0, 1)}, []ratio{frac(1, 2), frac(0, 1)}), []ratio{frac(1, 2), frac(1, maxPart)}}, {whole(0, 0), spotsOf([]ratio{frac(1, halfPart), frac(0, 1)}, []ratio{frac(1, 3), frac(0, 1)}), nil},
		// A sum on the way alone: in another order it is told.
		{whole(0), spots(0, maxPart, 1, 1, 2, -1), nil}, {whole(0), spots(0, maxPart, 1, -1, 2, 1), whole(maxPart)}, {whole(0, 0), spots(1, halfPart, 2, halfPart/2+1, -1, 2), nil}, {whole(0, 0), spots(-1, 2, 1, halfPart, 2, halfPart/2+1), whole(750000003, maxPart)},
		// A power of x alone, beside what is 0 and beside what would bring it back; one that no sum has may be too great.
		{whole(0, 0), spots(40000, 0, 0, 0), whole(0, 0)}, {make0(3), spots(40000, 0, 0, 0), nil}, {make0(3), spots(0, 0, 40000, 0), nil}, {whole(5), spots(maxPart, 5, maxPart, 6), whole(1)}, {whole(0, 0), spots(maxPart, 1, 0, 0), whole(1, maxPart)}, {make0(4), spotsOf([]ratio{frac(1, 1001), frac(0, 1)}, whole(1001, 0)), nil}, {make0(3), spotsOf([]ratio{frac(1, 1001), frac(0, 1)}, whole(1001, 0)), []ratio{frac(1001, 1), frac(1, 1), frac(1, 1001)}}, {make0(4), spots(1001, 0, 0, 0), nil}, {make0(4), spots(-1000, 0, 0, 0), make0(4)},
		// CurveAt alone; the difference.
		{whole(-maxPart, 0, halfPart), spots(2, maxPart, 0, -maxPart), nil}, {whole(0, 0, 1), spots(0, 0, 31623, 0), nil}, {whole(-1), spots(0, -1, 0, maxPart), nil}, {whole(-1), spots(0, maxPart-1, 0, -1), whole(maxPart)}, {[]ratio{frac(1, 99989)}, spotsOf(whole(0, 0), []ratio{frac(1, 99989), frac(1, 99991)}), nil},
		{nil, three, nil}, {make0(5), three, nil}, {whole(0), nil, nil}, {whole(0), spots(0, 1), nil}, {whole(0), spotsOn(13, 0, func(x int64) int64 { return x }), nil}, {whole(0), make([]spot, 2), nil}, {[]ratio{frac(2, 4)}, three, nil}, {[]ratio{frac(0, 1), zero}, three, nil},
	}
}

func TestNormalTells(t *testing.T) {
	for _, c := range normalCases() {
		if got, is := impl.Normal(c.curve, c.list); is != (c.want != nil) || !slices.Equal(got, c.want) {
			t.Errorf("Normal(%v, %v): %v %v, not %v", c.curve, c.list, got, is, c.want)
		}
		checkCurve(t, c.curve, c.list)
	}
}

// The greatest X of which each power may be asked, the least one of which it may not, and such between 0 and 1; beside
// a mark of each kind, in each order, with as many numbers as there may be.
func TestFitsAtTheGreatestPowers(t *testing.T) {
	told := map[bool]int{}
	for _, n := range []int64{31, 32, 177, 178, 999, 1000, 1001, 31622, 31623, maxPart} {
		for _, x := range []ratio{frac(n, 1), frac(-n, 1), frac(1, n), frac(-1, n), frac(n-1, n), frac(n, n-1)} {
			for _, y := range []ratio{frac(0, 1), frac(1, 1), frac(n, 1), x} {
				one := spot{X: x, Y: y}
				for _, rest := range [][]spot{spots(0, 0), spots(0, 1, 1, -1), spots(-1, 0, 0, 0, 1, 0), spotsOf([]ratio{x}, []ratio{frac(2, 1)}), append(spots(0, 0, 1, 1), one)} {
					for _, list := range [][]spot{append([]spot{one}, rest...), append(slices.Clone(rest), one)} {
						checkFits(t, list)
						for n := 1; n <= 4; n++ {
							checkCurve(t, make0(n), list)
							checkCurve(t, append(make0(n-1), x), list)
							told[checkFitted(t, list, int64(n))]++
						}
					}
				}
			}
		}
	}
	if told[true] < 1000 || told[false] < 1000 {
		t.Error("too few", told)
	}
}

func TestFitsAreExact(t *testing.T) {
	var fitted, normals [5]map[bool]int
	misses, heights := map[bool]int{}, map[bool]int{}
	for n := range fitted {
		fitted[n], normals[n] = map[bool]int{}, map[bool]int{}
	}
	chanceFits(101, 150, func(chance *rand.Rand, curve []ratio, list []spot) {
		checkFits(t, list)
		checkCurve(t, curve, list)
		for n := int64(1); n <= 4; n++ {
			_, is := impl.Fitted(list, n)
			fitted[n][is]++
		}
		_, missIs := impl.Miss(curve, list)
		misses[missIs]++
		_, normalIs := impl.Normal(curve, list)
		normals[len(curve)][normalIs]++
		_, heightIs := impl.CurveAt(curve, list[0].X)
		heights[heightIs]++
	})
	for n := 1; n <= 4; n++ {
		if fitted[n][true] < 100 || fitted[n][false] < 100 || normals[n][true] < 50 || normals[n][false] < 50 {
			t.Error("too few", n, fitted[n], normals[n])
		}
	}
	if misses[true] < 300 || misses[false] < 300 || heights[true] < 300 || heights[false] < 300 {
		t.Error("too few", misses, heights)
	}
}

// eachFit tells of each curve that is laid through the marks of the cases and through such by chance.
func eachFit(seed int64, times int, tell func(*rand.Rand, []ratio, []spot)) {
	fits := func(chance *rand.Rand, list []spot) {
		for n := int64(1); n <= 4; n++ {
			curve, is := impl.Fitted(list, n)
			if is {
				tell(chance, curve, list)
			}
		}
	}
	for _, c := range fitCases() {
		fits(rand.New(rand.NewSource(seed)), c.list)
	}
	chanceFits(seed, times, func(chance *rand.Rand, _ []ratio, list []spot) { fits(chance, list) })
}

// Promise 10: what is Fitted has Normal 0, and no other Normal where that would be too great on its way.
func TestFittedHasNormal0(t *testing.T) {
	told := map[int]int{}
	eachFit(102, 500, func(_ *rand.Rand, curve []ratio, list []spot) {
		if got, is := impl.Normal(curve, list); is {
			if !slices.Equal(got, make0(len(curve))) {
				t.Fatalf("Normal(%v, %v): %v", curve, list, got)
			}
			told[len(curve)]++
		}
		exactly, _ := exactCurve(curve)
		marks, _ := exactSpots(list)
		for p := range curve {
			if got := normalOf(exactly, marks, p); got.Sign() != 0 {
				t.Fatalf("%v is no fit of %v: %d has %v", curve, list, p, got)
			}
		}
	})
	for n := 1; n <= 4; n++ {
		if told[n] < 300 {
			t.Error("too few", told)
		}
	}
}

// otherCurves have as many numbers as the curve, but not just these: near it, far off, by chance.
func otherCurves(chance *rand.Rand, curve []ratio) [][]ratio {
	var list [][]ratio
	for p, c := range curve {
		exactly, _ := exact(c)
		for _, by := range []*big.Rat{big.NewRat(1, 1), big.NewRat(-1, 1), big.NewRat(1, 997), big.NewRat(-1, 997), big.NewRat(chance.Int63n(99)-50, chance.Int63n(99)+1)} {
			other := slices.Clone(curve)
			number, is := fitted(new(big.Rat).Add(exactly, by))
			if other[p] = number; is {
				list = append(list, other)
			}
		}
		for side := int64(-1); side <= 1; side += 2 {
			other := slices.Clone(curve)
			if other[p] = neighbour(c, side, maxPart); isExact(other[p]) {
				list = append(list, other)
			}
		}
	}
	for range 4 {
		list = append(list, turnedSome(chance, table(chanceRow(chance, chance.Intn(3), len(curve))))[0])
	}
	return append(list, make0(len(curve)))
}

// Promise 10, GAUSS: no other curve of so many numbers has a less Miss, nor one as little: there is just one.
func TestNoOtherCurveIsNearer(t *testing.T) {
	told, far := map[int]int{}, map[int]int{}
	eachFit(103, 150, func(chance *rand.Rand, curve []ratio, list []spot) {
		exactly, _ := exactCurve(curve)
		marks, _ := exactSpots(list)
		miss, missIs := impl.Miss(curve, list)
		least := missOf(exactly, marks)
		for _, other := range otherCurves(chance, curve) {
			if slices.Equal(other, curve) {
				continue
			}
			otherExactly, is := exactCurve(other)
			if !is {
				t.Fatal(other)
			}
			if missOf(otherExactly, marks).Cmp(least) <= 0 {
				t.Fatalf("%v is as near to %v as %v", other, list, curve)
			}
			far[len(curve)]++
			if got, is := impl.Miss(other, list); is && missIs {
				if !impl.Less(miss, got) {
					t.Fatalf("%v: Miss of %v %v, of the fit %v %v", list, other, got, curve, miss)
				}
				told[len(curve)]++
			}
		}
	})
	for n := 1; n <= 4; n++ {
		if told[n] < 1000 || far[n] < 1000 {
			t.Error("too few", told, far)
		}
	}
}

// Where a curve of so many numbers goes through all marks, it is what is Fitted, and its Miss is 0; else it is not 0.
func TestFittedGoesThroughWhereItCan(t *testing.T) {
	told := map[bool]int{}
	eachFit(104, 200, func(_ *rand.Rand, curve []ratio, list []spot) {
		through := true
		for _, s := range list {
			y, is := exactCurveAt(curve, s.X)
			through = through && is && y == s.Y
		}
		got, is := impl.Miss(curve, list)
		if is && (got == frac(0, 1)) != through {
			t.Fatalf("Miss(%v, %v): %v", curve, list, got)
		}
		if is {
			told[through]++
		}
	})
	if told[true] < 500 || told[false] < 500 {
		t.Error("too few", told)
	}
}

// Fitted asks for as many marks with unlike X as it has numbers, whatever else there is.
func TestFittedIsJustOneWhereSoManyXAreUnlike(t *testing.T) {
	for different := 1; different <= 6; different++ {
		for n := max(2, different); n <= 12; n++ {
			list := make([]spot, n)
			for i := range list {
				list[i] = spot{X: frac(int64(i%different)-2, 1), Y: frac(int64(i*i%7), 1)}
			}
			for count := int64(1); count <= 4; count++ {
				if is := checkFitted(t, list, count); is != (int(count) <= different) {
					t.Fatal(list, count, is)
				}
			}
		}
	}
}
