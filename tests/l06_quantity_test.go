package tests

import (
	"math"
	"slices"
	"strings"
	"testing"

	"loop.example/g00069/impl"
)

func TestQuantityOkTells(t *testing.T) {
	one := frac(1, 1)
	for _, c := range []struct {
		q    quantity
		want bool
	}{
		{amount(one, 0, 0, 0, 0, 0), true}, {amount(frac(0, 1), 0, 0, 0, 0, 0), true}, {amount(frac(-7, 3), 1, 0, -2, 0, 0), true}, {amount(frac(maxPart, 1), 9, 9, 9, 9, 9), true}, {amount(frac(-maxPart, 999999999), -9, -9, -9, -9, -9), true},
		{amount(one, 9, -9, 9, -9, 9), true}, {amount(frac(1, maxPart), -9, 9, -9, 9, -9), true},
		// A dimension that is none.
		{amount(one), false}, {quantity{Value: one, Dim: dim()}, false}, {quantity{Value: one, Dim: nil}, false}, {amount(one, 0, 0, 0, 0), false}, {amount(one, 0, 0, 0, 0, 0, 0), false}, {amount(one, 1, 0, -2, 0, 0, 0), false},
		{amount(one, 10, 0, 0, 0, 0), false}, {amount(one, 0, 0, 0, 0, 10), false}, {amount(one, -10, 0, 0, 0, 0), false}, {amount(one, 0, 0, 0, 0, -10), false}, {amount(one, 0, 0, math.MinInt64, 0, 0), false}, {amount(one, 0, math.MaxInt64, 0, 0, 0), false},
		// A value that is no fraction.
		{quantity{}, false}, {amount(zero, 0, 0, 0, 0, 0), false}, {amount(frac(2, 4), 1, 0, 0, 0, 0), false}, {amount(frac(0, 2), 0, 0, 0, 0, 0), false}, {amount(frac(1, -1), 0, 0, 0, 0, 0), false}, {amount(frac(1, 0), 1, 0, 0, 0, 0), false},
		{amount(frac(maxPart+1, 1), 0, 0, 0, 0, 0), false}, {amount(frac(-maxPart-1, 1), 0, 0, 0, 0, 0), false}, {amount(frac(1, maxPart+1), 0, 0, 0, 0, 0), false}, {amount(frac(math.MinInt64, math.MinInt64), 0, 0, 0, 0, 0), false},
	} {
		if got := impl.QuantityOk(c.q); got != c.want || checkQuantity(t, c.q) != c.want {
			t.Errorf("QuantityOk(%v): %v", c.q, got)
		}
	}
}

func TestQuantityOkOfEveryPart(t *testing.T) {
	for _, d := range everyPower() {
		for _, v := range anyRatios() {
			checkQuantity(t, amount(v, d...))
		}
	}
	for place := range 5 {
		for _, power := range steepNumbers() {
			for _, d := range dims(nought(), dim(9, -9, 9, -9, 9)) {
				d[place] = power
				if got := checkQuantity(t, amount(frac(-1, 2), d...)); got != (power >= -9 && power <= 9) {
					t.Errorf("%v: %v", d, got)
				}
			}
		}
	}
}

func TestMeasuredTells(t *testing.T) {
	for _, c := range []struct {
		v    ratio
		unit string
		want quantity
	}{
		{frac(2, 1), "km", amount(frac(2000, 1), 1, 0, 0, 0, 0)}, {frac(1, 2), "m", amount(frac(1, 2), 1, 0, 0, 0, 0)}, {frac(-3, 2), "h", amount(frac(-5400, 1), 0, 0, 1, 0, 0)}, {frac(36, 1), "km/h", amount(frac(10, 1), 1, 0, -1, 0, 0)},
		{frac(1, 1), "in", amount(frac(127, 5000), 1, 0, 0, 0, 0)}, {frac(-5, 7), "mm", amount(frac(-1, 1400), 1, 0, 0, 0, 0)}, {frac(3, 1), "kg.m^2/s^2", amount(frac(3, 1), 2, 1, -2, 0, 0)}, {frac(230, 1), "V", amount(frac(230, 1), 2, 1, -3, -1, 0)},
		{frac(1, 1), "g/cm^3", amount(frac(1000, 1), -3, 1, 0, 0, 0)}, {frac(2, 1), "kW.h", amount(frac(7200000, 1), 2, 1, -2, 0, 0)}, {frac(5, 1), "min^-1", amount(frac(1, 12), 0, 0, -1, 0, 0)},
		// Nought of something is a quantity as well, and so is a mere number.
		{frac(0, 1), "km", amount(frac(0, 1), 1, 0, 0, 0, 0)}, {frac(0, 1), "1", amount(frac(0, 1), 0, 0, 0, 0, 0)}, {frac(2, 3), "1", amount(frac(2, 3), 0, 0, 0, 0, 0)}, {frac(-7, 1), "1", amount(frac(-7, 1), 0, 0, 0, 0, 0)},
		{frac(7, 1), "m/m", amount(frac(7, 1), 0, 0, 0, 0, 0)}, {frac(-7, 1), "km/m", amount(frac(-7000, 1), 0, 0, 0, 0, 0)}, {frac(1, maxPart), "1", amount(frac(1, maxPart), 0, 0, 0, 0, 0)},
		// C alone has its zero.
		{frac(20, 1), "C", amount(frac(5863, 20), 0, 0, 0, 0, 1)}, {frac(0, 1), "C", amount(frac(5463, 20), 0, 0, 0, 0, 1)}, {frac(-5463, 20), "C", amount(frac(0, 1), 0, 0, 0, 0, 1)}, {frac(-300, 1), "C", amount(frac(-537, 20), 0, 0, 0, 0, 1)},
		{frac(-3, 20), "C", amount(frac(273, 1), 0, 0, 0, 0, 1)}, {frac(1, 3), "C", amount(frac(16409, 60), 0, 0, 0, 0, 1)}, {frac(20, 1), "K", amount(frac(20, 1), 0, 0, 0, 0, 1)}, {frac(20, 1), "mK", amount(frac(1, 50), 0, 0, 0, 0, 1)},
		// C with a power, or with another word, has none.
		{frac(20, 1), "C^1", amount(frac(20, 1), 0, 0, 0, 0, 1)}, {frac(20, 1), "C^2", amount(frac(20, 1), 0, 0, 0, 0, 2)}, {frac(20, 1), "C^-1", amount(frac(20, 1), 0, 0, 0, 0, -1)}, {frac(20, 1), "C.m/m", amount(frac(20, 1), 0, 0, 0, 0, 1)},
		{frac(20, 1), "m.C", amount(frac(20, 1), 1, 0, 0, 0, 1)}, {frac(20, 1), "C.C", amount(frac(20, 1), 0, 0, 0, 0, 2)}, {frac(20, 1), "C/s", amount(frac(20, 1), 0, 0, -1, 0, 1)}, {frac(20, 1), "J/C", amount(frac(20, 1), 2, 1, -2, 0, -1)},
		{frac(0, 1), "C/min", amount(frac(0, 1), 0, 0, -1, 0, 1)}, {frac(20, 1), "C/C", amount(frac(20, 1), 0, 0, 0, 0, 0)}, {frac(20, 1), "km.C/m", amount(frac(20000, 1), 0, 0, 0, 0, 1)},
		// A value, and a factor, that is just a fraction; a dimension that is just one.
		{frac(1000000, 1), "km", amount(frac(maxPart, 1), 1, 0, 0, 0, 0)}, {frac(-1000000, 1), "km", amount(frac(-maxPart, 1), 1, 0, 0, 0, 0)}, {frac(1, 1000000), "mm", amount(frac(1, maxPart), 1, 0, 0, 0, 0)}, {frac(-1, 1), "km^3", amount(frac(-maxPart, 1), 3, 0, 0, 0, 0)},
		{frac(1, 1), "mm^3", amount(frac(1, maxPart), 3, 0, 0, 0, 0)}, {frac(maxPart, 1), "mm^3", amount(frac(1, 1), 3, 0, 0, 0, 0)}, {frac(1, maxPart), "km^3", amount(frac(1, 1), 3, 0, 0, 0, 0)}, {frac(0, 1), "km^3", amount(frac(0, 1), 3, 0, 0, 0, 0)},
		{frac(-maxPart, 1), "s", amount(frac(-maxPart, 1), 0, 0, 1, 0, 0)}, {frac(49999726, 1), "C", amount(frac(999999983, 20), 0, 0, 0, 0, 1)}, {frac(-50000273, 1), "C", amount(frac(-999999997, 20), 0, 0, 0, 0, 1)}, {frac(maxPart, 1), "C^1", amount(frac(maxPart, 1), 0, 0, 0, 0, 1)},
		{frac(2, 1), "m^9", amount(frac(2, 1), 9, 0, 0, 0, 0)}, {frac(2, 1), "m^9/s^9", amount(frac(2, 1), 9, 0, -9, 0, 0)}, {frac(2, 1), "K^-9", amount(frac(2, 1), 0, 0, 0, 0, -9)},
	} {
		if got, is := impl.Measured(c.v, c.unit); !is || !sameQuantity(got, c.want) {
			t.Errorf("Measured(%v, %q): %v %v, not %v", c.v, c.unit, got, is, c.want)
		}
		checkMeasured(t, c.v, c.unit)
	}
}

func TestMeasuredRefuses(t *testing.T) {
	one := frac(1, 1)
	for _, c := range []struct {
		v    ratio
		unit string
	}{
		// No unit text.
		{one, ""}, {one, "meter"}, {one, "x"}, {one, "m..s"}, {one, "1/s"}, {one, "m^0"}, {one, "m^10"}, {one, "kC"}, {one, " C"}, {one, "C "}, {one, "c"}, {one, "°C"}, {one, "2"}, {one, "1.m"}, {frac(0, 1), "0"}, {frac(0, 1), ""},
		// Its factor is too great, also on the way; or its dimension is none, also on the way.
		{one, "km^4"}, {frac(0, 1), "km^4"}, {one, "uin"}, {one, "in^3"}, {one, "km^4/km"}, {one, "Mm.Mm/Mm"}, {one, "m^9.m"}, {one, "m^9.m/m"}, {one, "J^5/J"}, {frac(1, maxPart), "km^4"}, {one, "C^9.K"},
		// The value becomes too great by the factor.
		{frac(1000001, 1), "km"}, {frac(-1000001, 1), "km"}, {frac(1, 1000001), "mm"}, {frac(maxPart, 1), "km"}, {frac(1, maxPart), "mm"}, {frac(2, 1), "km^3"}, {frac(-2, 1), "km^3"}, {frac(1, 3), "mm^3"}, {frac(maxPart, 1), "h"}, {frac(1, maxPart), "in"},
		// Or by the zero.
		{frac(49999727, 1), "C"}, {frac(-50000274, 1), "C"}, {frac(maxPart, 1), "C"}, {frac(-maxPart, 1), "C"}, {frac(1, maxPart), "C"}, {frac(1, 999999999), "C"},
		// No fraction.
		{zero, "m"}, {zero, "1"}, {zero, "C"}, {zero, ""}, {frac(2, 2), "m"}, {frac(2, 4), "km"}, {frac(0, 2), "m"}, {frac(1, -1), "m"}, {frac(1, 0), "C"}, {frac(1000, -1000), "C"}, {frac(maxPart+1, 1), "m"}, {frac(maxPart+1, 1), "mm"}, {frac(1, maxPart+1), "m"},
		{frac(1, 2*maxPart), "km"}, {frac(-5463*2, 40), "C"}, {frac(math.MinInt64, 1), "m"}, {frac(math.MaxInt64, math.MaxInt64), "m"}, {frac(2, 4), "meter"},
	} {
		if got, is := impl.Measured(c.v, c.unit); is || !sameQuantity(got, quantity{}) {
			t.Errorf("Measured(%v, %q): %v %v", c.v, c.unit, got, is)
		}
		checkMeasured(t, c.v, c.unit)
	}
}

func TestPlusTells(t *testing.T) {
	for _, c := range []struct {
		d       []int64
		a, b, c ratio
	}{
		{dim(1, 0, 0, 0, 0), frac(2000, 1), frac(1, 2), frac(4001, 2)}, {dim(1, 0, -1, 0, 0), frac(1, 2), frac(1, 3), frac(5, 6)}, {dim(0, 0, 0, 0, 1), frac(-7, 3), frac(7, 3), frac(0, 1)}, {dim(2, 1, -3, -1, 0), frac(-1, 6), frac(-1, 3), frac(-1, 2)},
		{nought(), frac(1, 1), frac(1, 1), frac(2, 1)}, {nought(), frac(0, 1), frac(0, 1), frac(0, 1)}, {nought(), frac(-3, 1), frac(1, 2), frac(-5, 2)}, {dim(0, 1, 0, 0, 0), frac(0, 1), frac(-9, 4), frac(-9, 4)},
		{dim(9, -9, 9, -9, 9), frac(1, 4), frac(1, 4), frac(1, 2)}, {dim(-9, 9, -9, 9, -9), frac(5, 1), frac(-8, 1), frac(-3, 1)}, {dim(9, 9, 9, 9, 9), frac(1, 1), frac(0, 1), frac(1, 1)}, {dim(-9, -9, -9, -9, -9), frac(1, 1), frac(1, 1), frac(2, 1)},
		// A sum that is just a fraction.
		{dim(1, 0, 0, 0, 0), frac(maxPart-1, 1), frac(1, 1), frac(maxPart, 1)}, {dim(1, 0, 0, 0, 0), frac(1-maxPart, 1), frac(-1, 1), frac(-maxPart, 1)}, {nought(), frac(maxPart, 1), frac(-maxPart, 1), frac(0, 1)}, {nought(), frac(maxPart, 1), frac(0, 1), frac(maxPart, 1)},
		{dim(0, 0, 3, 0, 0), frac(1, 999999999), frac(1, 999999999), frac(2, 999999999)}, {dim(0, 0, 3, 0, 0), frac(1, 31622), frac(1, 31621), frac(63243, 999919262)}, {dim(0, 0, 3, 0, 0), frac(maxPart/2, 1), frac(maxPart/2, 1), frac(maxPart, 1)}, {dim(0, 0, 0, 2, 0), frac(1, maxPart), frac(-1, maxPart), frac(0, 1)},
	} {
		for _, pair := range [][2]ratio{{c.a, c.b}, {c.b, c.a}} {
			a, b := amount(pair[0], c.d...), amount(pair[1], c.d...)
			if got, is := impl.Plus(a, b); !is || !sameQuantity(got, amount(c.c, c.d...)) {
				t.Errorf("Plus(%v, %v): %v %v, not %v", a, b, got, is, c.c)
			}
			checkPlus(t, a, b)
		}
	}
}

func TestPlusRefuses(t *testing.T) {
	one, length := frac(1, 1), dim(1, 0, 0, 0, 0)
	for _, c := range [][2]quantity{
		// Unlike dimensions, by one power, by its place or its sign; nought of one is not nought of another.
		{amount(one, length...), amount(one, 0, 0, 1, 0, 0)}, {amount(one, length...), amount(one, 2, 0, 0, 0, 0)}, {amount(one, length...), amount(one, -1, 0, 0, 0, 0)}, {amount(one, length...), amount(one, 0, 0, 0, 0, 0)}, {amount(one, length...), amount(one, 1, 0, 0, 0, 1)},
		{amount(frac(0, 1), length...), amount(one, 0, 0, 0, 0, 0)}, {amount(frac(0, 1), length...), amount(frac(0, 1), 0, 1, 0, 0, 0)}, {amount(one, 9, -9, 9, -9, 9), amount(one, -9, 9, -9, 9, -9)}, {amount(one, 1, 2, 3, 4, 5), amount(one, 5, 4, 3, 2, 1)}, {amount(one, 1, 2, 3, 4, 5), amount(one, 1, 2, 3, 4, 4)},
		// The sum is too great.
		{amount(frac(maxPart, 1), length...), amount(one, length...)}, {amount(frac(-maxPart, 1), length...), amount(frac(-1, 1), length...)}, {amount(frac(1, maxPart), length...), amount(one, length...)}, {amount(frac(1, 31623), length...), amount(frac(1, 31624), length...)},
		{amount(frac(maxPart, 1), length...), amount(frac(maxPart, 1), length...)}, {amount(frac(1, maxPart), 0, 0, 0, 0, 0), amount(frac(1, 999999999), 0, 0, 0, 0, 0)}, {amount(frac(maxPart, 999999999), length...), amount(frac(999999999, maxPart), length...)}, {amount(frac(maxPart, 3), length...), amount(frac(maxPart, 7), length...)},
		// No value, or no dimension, on one side; that of both is alike, but none.
		{amount(one, length...), amount(zero, length...)}, {amount(one, length...), amount(frac(2, 4), length...)}, {amount(one, length...), amount(frac(maxPart+1, 1), length...)}, {amount(frac(0, 1), length...), amount(frac(1, -1), length...)}, {amount(frac(maxPart+1, 1), length...), amount(frac(-1, 1), length...)},
		{amount(frac(2, 4), length...), amount(frac(2, 4), length...)}, {amount(one, 10, 0, 0, 0, 0), amount(one, 10, 0, 0, 0, 0)}, {amount(one, 0, 0, 0, 0, -10), amount(one, 0, 0, 0, 0, -10)}, {amount(one, 0, 0, 0, 0), amount(one, 0, 0, 0, 0)}, {amount(one), amount(one)}, {{}, {}},
		{amount(one, 0, 0, 0, 0, 0, 0), amount(one, 0, 0, 0, 0, 0, 0)}, {amount(one, 0, 0, 0, 0, 0), amount(one, 0, 0, 0, 0)}, {amount(one, 0, 0, 0, 0, 0), amount(one, 0, 0, 0, 0, 0, 0)}, {amount(one, 0, 0, 0, 0, 0), amount(one)}, {quantity{Value: one, Dim: dim()}, {Value: one}},
		{amount(one, 9, 0, 0, 0, 0), amount(one, 10, 0, 0, 0, 0)}, {amount(one, -9, 0, 0, 0, 0), amount(one, -10, 0, 0, 0, 0)}, {amount(one, length...), quantity{}},
	} {
		for _, pair := range [][2]quantity{c, {c[1], c[0]}} {
			if got, is := impl.Plus(pair[0], pair[1]); is || !sameQuantity(got, quantity{}) {
				t.Errorf("Plus(%v, %v): %v %v", pair[0], pair[1], got, is)
			}
			checkPlus(t, pair[0], pair[1])
		}
	}
}

func TestProductTells(t *testing.T) {
	for _, c := range []struct{ a, b, want quantity }{
		{amount(frac(2000, 1), 1, 0, 0, 0, 0), amount(frac(1, 2), 1, 0, 0, 0, 0), amount(frac(1000, 1), 2, 0, 0, 0, 0)}, {amount(frac(3, 1), 1, 1, -2, 0, 0), amount(frac(-1, 6), 1, 0, 0, 0, 0), amount(frac(-1, 2), 2, 1, -2, 0, 0)},
		{amount(frac(-2, 3), 2, 1, -3, -1, 0), amount(frac(-3, 2), 0, 0, 0, 1, 0), amount(frac(1, 1), 2, 1, -3, 0, 0)}, {amount(frac(0, 1), 1, 0, 0, 0, 0), amount(frac(7, 1), 0, 0, 1, 0, 0), amount(frac(0, 1), 1, 0, 1, 0, 0)},
		{amount(frac(1, 1), 1, 2, 3, 4, 5), amount(frac(1, 1), -1, -2, -3, -4, -5), amount(frac(1, 1), 0, 0, 0, 0, 0)}, {amount(frac(5, 1), 0, 0, 0, 0, 0), amount(frac(7, 1), 0, 0, 0, 0, 0), amount(frac(35, 1), 0, 0, 0, 0, 0)},
		{amount(frac(5, 1), 0, 0, 0, 0, 0), amount(frac(1, 5), 9, -9, 9, -9, 9), amount(frac(1, 1), 9, -9, 9, -9, 9)}, {amount(frac(0, 1), 0, 0, 0, 0, 0), amount(frac(0, 1), 0, 0, 0, 0, 0), amount(frac(0, 1), 0, 0, 0, 0, 0)},
		// A dimension that is just one.
		{amount(frac(1, 1), 5, 0, 0, 0, 0), amount(frac(1, 1), 4, 0, 0, 0, 0), amount(frac(1, 1), 9, 0, 0, 0, 0)}, {amount(frac(1, 1), 0, 0, 0, 0, -8), amount(frac(1, 1), 0, 0, 0, 0, -1), amount(frac(1, 1), 0, 0, 0, 0, -9)},
		{amount(frac(1, 1), 9, -9, 9, -9, 9), amount(frac(2, 1), -9, 9, -9, 9, -9), amount(frac(2, 1), 0, 0, 0, 0, 0)}, {amount(frac(1, 1), 9, 9, 9, 9, 9), amount(frac(1, 1), 0, -1, -9, -9, -9), amount(frac(1, 1), 9, 8, 0, 0, 0)},
		// A product that is just a fraction.
		{amount(frac(31250, 1), 1, 0, 0, 0, 0), amount(frac(32000, 1), 1, 0, 0, 0, 0), amount(frac(maxPart, 1), 2, 0, 0, 0, 0)}, {amount(frac(-31250, 1), 1, 0, 0, 0, 0), amount(frac(32000, 1), 0, 0, 0, 0, 0), amount(frac(-maxPart, 1), 1, 0, 0, 0, 0)},
		{amount(frac(1, 31250), 1, 0, 0, 0, 0), amount(frac(1, 32000), -1, 0, 0, 0, 0), amount(frac(1, maxPart), 0, 0, 0, 0, 0)}, {amount(frac(maxPart, 1), 1, 0, 0, 0, 0), amount(frac(1, maxPart), 1, 0, 0, 0, 0), amount(frac(1, 1), 2, 0, 0, 0, 0)},
		{amount(frac(maxPart, 999999999), 1, 0, 0, 0, 0), amount(frac(999999999, maxPart), 0, 1, 0, 0, 0), amount(frac(1, 1), 1, 1, 0, 0, 0)}, {amount(frac(maxPart, 1), 1, 0, 0, 0, 0), amount(frac(-1, 1), 0, 0, 0, 0, 0), amount(frac(-maxPart, 1), 1, 0, 0, 0, 0)},
	} {
		for _, pair := range [][2]quantity{{c.a, c.b}, {c.b, c.a}} {
			if got, is := impl.Product(pair[0], pair[1]); !is || !sameQuantity(got, c.want) {
				t.Errorf("Product(%v, %v): %v %v, not %v", pair[0], pair[1], got, is, c.want)
			}
			checkProduct(t, pair[0], pair[1])
		}
	}
}

func TestProductRefuses(t *testing.T) {
	one, length := frac(1, 1), dim(1, 0, 0, 0, 0)
	for _, c := range [][2]quantity{
		// The dimension would be none, in the first or the last power, above or below; nought of it is none either.
		{amount(one, 5, 0, 0, 0, 0), amount(one, 5, 0, 0, 0, 0)}, {amount(one, 9, 0, 0, 0, 0), amount(one, length...)}, {amount(one, 0, 0, 0, 0, -9), amount(one, 0, 0, 0, 0, -1)}, {amount(frac(0, 1), 9, 0, 0, 0, 0), amount(one, length...)}, {amount(one, 0, 0, -5, 0, 0), amount(frac(0, 1), 0, 0, -5, 0, 0)},
		{amount(one, 9, 9, 9, 9, 9), amount(one, 9, 9, 9, 9, 9)}, {amount(one, 9, -9, 9, -9, 9), amount(one, -9, 9, -9, 9, 1)}, {amount(one, 0, 9, 0, 0, 0), amount(one, 0, 1, 0, 0, 0)}, {amount(one, 0, 0, 0, -9, 0), amount(one, 0, 0, 0, -1, 0)},
		// The value would be too great.
		{amount(frac(31623, 1), length...), amount(frac(31623, 1), length...)}, {amount(frac(-31250, 1), length...), amount(frac(32001, 1), length...)}, {amount(frac(1, 31623), length...), amount(frac(1, 31623), length...)}, {amount(frac(maxPart, 1), length...), amount(frac(2, 1), length...)},
		{amount(frac(1, maxPart), length...), amount(frac(-1, 2), length...)}, {amount(frac(maxPart, 1), length...), amount(frac(maxPart, 1), -1, 0, 0, 0, 0)}, {amount(frac(maxPart, 1), 9, 0, 0, 0, 0), amount(frac(2, 1), length...)},
		// No value, or no dimension, on one side or both, though the product would be right.
		{amount(zero, length...), amount(one, length...)}, {amount(frac(2, 4), length...), amount(one, length...)}, {amount(frac(2, 4), length...), amount(frac(2, 1), length...)}, {amount(frac(1, -1), length...), amount(frac(1, -1), length...)}, {amount(frac(2*maxPart, 1), length...), amount(frac(1, 2), length...)},
		{amount(zero, length...), amount(frac(0, 1), length...)}, {amount(one, 10, 0, 0, 0, 0), amount(one, -1, 0, 0, 0, 0)}, {amount(one, -10, 0, 0, 0, 0), amount(one, length...)}, {amount(one, 0, 0, 0, 0, 10), amount(one, 0, 0, 0, 0, -10)}, {amount(one, 0, 0, 0, 0), amount(one, length...)},
		{amount(one, 0, 0, 0, 0, 0, 0), amount(one, length...)}, {amount(one, 1, 0, 0, 0, 0, 0), amount(one, 1, 0, 0, 0, 0, 0)}, {amount(one, 0, 0, 0, 0), amount(one, 0, 0, 0, 0)}, {amount(one), amount(one, length...)}, {amount(one), amount(one)}, {{}, amount(one, length...)}, {{}, {}},
		{quantity{Value: one, Dim: dim()}, amount(one, 0, 0, 0, 0, 0)}, {amount(one, math.MinInt64, 0, 0, 0, 0), amount(one, math.MinInt64, 0, 0, 0, 0)}, {amount(one, math.MaxInt64, 0, 0, 0, 0), amount(one, math.MinInt64, 0, 0, 0, 0)},
	} {
		for _, pair := range [][2]quantity{c, {c[1], c[0]}} {
			if got, is := impl.Product(pair[0], pair[1]); is || !sameQuantity(got, quantity{}) {
				t.Errorf("Product(%v, %v): %v %v", pair[0], pair[1], got, is)
			}
			checkProduct(t, pair[0], pair[1])
		}
	}
}

func TestInTells(t *testing.T) {
	for _, c := range []struct {
		q    quantity
		unit string
		want ratio
	}{
		{amount(frac(4001, 2), 1, 0, 0, 0, 0), "cm", frac(200050, 1)}, {amount(frac(10, 1), 1, 0, -1, 0, 0), "km/h", frac(36, 1)}, {amount(frac(-90, 1), 0, 0, 1, 0, 0), "min", frac(-3, 2)}, {amount(frac(1, 1), 1, 0, 0, 0, 0), "in", frac(5000, 127)}, {amount(frac(3, 1), 2, 1, -2, 0, 0), "V.A.s", frac(3, 1)},
		{amount(frac(0, 1), 1, 0, 0, 0, 0), "km", frac(0, 1)}, {amount(frac(1, 2), 0, 0, -1, 0, 0), "kHz", frac(1, 2000)}, {amount(frac(1000, 1), -3, 1, 0, 0, 0), "g/cm^3", frac(1, 1)}, {amount(frac(-5, 7), 0, 1, 0, 0, 0), "g", frac(-5000, 7)},
		// A mere number.
		{amount(frac(2, 3), 0, 0, 0, 0, 0), "1", frac(2, 3)}, {amount(frac(0, 1), 0, 0, 0, 0, 0), "1", frac(0, 1)}, {amount(frac(-7, 1), 0, 0, 0, 0, 0), "km/m", frac(-7, 1000)}, {amount(frac(7, 1), 0, 0, 0, 0, 0), "C/K", frac(7, 1)}, {amount(frac(7, 1), 0, 0, 0, 0, 0), "s.Hz", frac(7, 1)},
		// C alone has its zero.
		{amount(frac(5863, 20), 0, 0, 0, 0, 1), "C", frac(20, 1)}, {amount(frac(0, 1), 0, 0, 0, 0, 1), "C", frac(-5463, 20)}, {amount(frac(5463, 20), 0, 0, 0, 0, 1), "C", frac(0, 1)}, {amount(frac(273, 1), 0, 0, 0, 0, 1), "C", frac(-3, 20)}, {amount(frac(-1, 3), 0, 0, 0, 0, 1), "C", frac(-16409, 60)},
		// C with a power, or with another word, and K have none.
		{amount(frac(20, 1), 0, 0, 0, 0, 1), "K", frac(20, 1)}, {amount(frac(20, 1), 0, 0, 0, 0, 1), "C^1", frac(20, 1)}, {amount(frac(20, 1), 0, 0, 0, 0, 2), "C^2", frac(20, 1)}, {amount(frac(20, 1), 0, 0, 0, 0, -1), "C^-1", frac(20, 1)}, {amount(frac(20, 1), 0, 0, 0, 0, 1), "C.m/m", frac(20, 1)},
		{amount(frac(20, 1), 0, 0, 0, 0, 1), "m.C/m", frac(20, 1)}, {amount(frac(20, 1), 0, 0, 0, 0, 2), "C.C", frac(20, 1)}, {amount(frac(20, 1), 0, 0, -1, 0, 1), "C/s", frac(20, 1)}, {amount(frac(1, 60), 0, 0, -1, 0, 1), "C/min", frac(1, 1)}, {amount(frac(20, 1), 0, 0, 0, 0, 1), "C.km/m", frac(1, 50)},
		{amount(frac(20, 1), 2, 0, -2, 0, -1), "J/kg.C", frac(20, 1)}, {amount(frac(20, 1), 0, 0, 0, 0, 1), "mK", frac(20000, 1)},
		// What is just a fraction, and a dimension that is just one.
		{amount(frac(maxPart, 1), 1, 0, 0, 0, 0), "km", frac(1000000, 1)}, {amount(frac(1000000, 1), 1, 0, 0, 0, 0), "mm", frac(maxPart, 1)}, {amount(frac(-1000000, 1), 1, 0, 0, 0, 0), "mm", frac(-maxPart, 1)}, {amount(frac(1, 1000000), 1, 0, 0, 0, 0), "km", frac(1, maxPart)},
		{amount(frac(1, 1), 3, 0, 0, 0, 0), "km^3", frac(1, maxPart)}, {amount(frac(-1, 1), 3, 0, 0, 0, 0), "mm^3", frac(-maxPart, 1)}, {amount(frac(maxPart, 1), 3, 0, 0, 0, 0), "km^3", frac(1, 1)}, {amount(frac(1, maxPart), 3, 0, 0, 0, 0), "mm^3", frac(1, 1)},
		{amount(frac(-maxPart, 1), 0, 0, 1, 0, 0), "s", frac(-maxPart, 1)}, {amount(frac(50000273, 1), 0, 0, 0, 0, 1), "C", frac(999999997, 20)}, {amount(frac(-49999726, 1), 0, 0, 0, 0, 1), "C", frac(-999999983, 20)}, {amount(frac(1, maxPart), 0, 0, 0, 0, 1), "C^1", frac(1, maxPart)},
		{amount(frac(2, 1), 9, 0, -9, 0, 0), "m^9/s^9", frac(2, 1)}, {amount(frac(2, 1), 0, 0, 0, 0, -9), "K^-9", frac(2, 1)},
	} {
		if got, is := impl.In(c.q, c.unit); !is || got != c.want {
			t.Errorf("In(%v, %q): %v %v, not %v", c.q, c.unit, got, is, c.want)
		}
		checkIn(t, c.q, c.unit)
	}
}

func TestInRefuses(t *testing.T) {
	one := frac(1, 1)
	for _, c := range []struct {
		q    quantity
		unit string
	}{
		// A unit text of another dimension.
		{amount(one, 1, 0, 0, 0, 0), "s"}, {amount(one, 1, 0, 0, 0, 0), "m^2"}, {amount(one, 1, 0, 0, 0, 0), "m^-1"}, {amount(one, 1, 0, 0, 0, 0), "1"}, {amount(one, 0, 0, 0, 0, 0), "m"}, {amount(one, 0, 0, 0, 0, 0), "C"}, {amount(one, 0, 0, 0, 0, 1), "1"}, {amount(one, 0, 0, 0, 0, 2), "C"},
		{amount(one, 0, 0, 0, 0, -1), "C"}, {amount(one, 0, 0, 0, 0, 1), "C^2"}, {amount(one, 0, 0, 0, 0, 1), "C/s"}, {amount(one, 2, 1, -2, 0, 0), "W"}, {amount(one, 1, 2, 3, 4, 5), "m.g^2.s^3.A^4.K^4"}, {amount(frac(0, 1), 1, 0, 0, 0, 0), "s"}, {amount(frac(0, 1), 0, 0, 0, 0, 0), "K"},
		// No unit text, or one that is refused, whatever the dimension of what it is made of.
		{amount(one, 1, 0, 0, 0, 0), ""}, {amount(one, 0, 0, 0, 0, 0), ""}, {amount(one, 0, 0, 0, 0, 0), "x"}, {amount(one, 0, 0, 0, 0, 0), "1/1"}, {amount(one, 0, 0, 0, 0, 0), "m^0"}, {amount(one, 0, 0, -1, 0, 0), "1/s"}, {amount(one, 0, 0, 0, 0, 1), "kC"}, {amount(one, 0, 0, 0, 0, 1), " C"},
		{amount(one, 4, 0, 0, 0, 0), "km^4"}, {amount(one, 3, 0, 0, 0, 0), "km^4/km"}, {amount(one, 1, 0, 0, 0, 0), "uin"}, {amount(frac(0, 1), 1, 0, 0, 0, 0), "uin"}, {amount(one, 9, 0, 0, 0, 0), "m^9.m/m"}, {amount(one, 0, 0, 0, 0, 0), "km^4/km^4"}, {amount(one, 0, 0, 0, 0, 0), "m..s"}, {quantity{}, ""},
		{amount(one, 10, 0, 0, 0, 0), "m^9.m"}, {amount(one), ""}, {amount(one), "x"}, {quantity{Value: one, Dim: dim()}, "km^4"},
		// Too great by the factor.
		{amount(frac(1000001, 1), 1, 0, 0, 0, 0), "mm"}, {amount(frac(-1000001, 1), 1, 0, 0, 0, 0), "mm"}, {amount(frac(1, 1000001), 1, 0, 0, 0, 0), "km"}, {amount(frac(maxPart, 1), 1, 0, 0, 0, 0), "in"}, {amount(frac(1, maxPart), 0, 0, 1, 0, 0), "h"}, {amount(frac(2, 1), 3, 0, 0, 0, 0), "mm^3"}, {amount(frac(1, 2), 3, 0, 0, 0, 0), "km^3"},
		// Too great by the zero.
		{amount(frac(50000274, 1), 0, 0, 0, 0, 1), "C"}, {amount(frac(-49999727, 1), 0, 0, 0, 0, 1), "C"}, {amount(frac(maxPart, 1), 0, 0, 0, 0, 1), "C"}, {amount(frac(-maxPart, 1), 0, 0, 0, 0, 1), "C"}, {amount(frac(1, maxPart), 0, 0, 0, 0, 1), "C"}, {amount(frac(1, 999999999), 0, 0, 0, 0, 1), "C"},
		// No value, or no dimension, though the answer would be right.
		{amount(zero, 1, 0, 0, 0, 0), "m"}, {amount(frac(2, 4), 1, 0, 0, 0, 0), "m"}, {amount(frac(2000, 2), 1, 0, 0, 0, 0), "km"}, {amount(frac(maxPart+1, 1), 1, 0, 0, 0, 0), "m"}, {amount(frac(2*maxPart, 1), 1, 0, 0, 0, 0), "km"}, {amount(frac(1, -1), 0, 0, 0, 0, 0), "1"}, {amount(frac(0, 2), 0, 0, 0, 0, 1), "C"},
		{amount(zero, 0, 0, 0, 0, 0), "1"}, {quantity{}, "1"}, {amount(one), "1"}, {quantity{Value: one, Dim: dim()}, "1"}, {amount(one, 0, 0, 0, 0), "1"}, {amount(one, 0, 0, 0, 0, 0, 0), "1"}, {amount(one, 1), "m"}, {amount(one, 1, 0, 0, 0), "m"}, {amount(one, 1, 0, 0, 0, 0, 0), "m"}, {amount(one, 0, 0, 0, 0, 1, 0), "C"},
		{amount(one, 10, 0, 0, 0, 0), "m^9"}, {amount(one, -10, 0, 0, 0, 0), "m^-9"}, {amount(one, 0, 0, 0, 0, 10), "K^9"}, {amount(one, 1<<32+1, 0, 0, 0, 0), "m"}, {amount(one, 256, 0, 0, 0, 0), "1"},
	} {
		if got, is := impl.In(c.q, c.unit); is || got != zero {
			t.Errorf("In(%v, %q): %v %v", c.q, c.unit, got, is)
		}
		checkIn(t, c.q, c.unit)
	}
}

func TestMeasuredAndInAreExact(t *testing.T) {
	told := map[bool]int{}
	for _, v := range append(someValues(), wrongRatios()...) {
		for _, unit := range slices.Concat(wordNames, slices.Concat(likeUnits()...)) {
			told[checkMeasured(t, v, unit)]++
			u, _ := exactUnit(unit)
			told[checkIn(t, amount(v, u.powers[:]...), unit)]++
		}
	}
	for _, v := range rightRatios() {
		for _, unit := range []string{"1", "C", "C^1", "C^2", "C/s", "K", "km", "mm", "km^3", "mm^3", "in", "h", "g"} {
			told[checkMeasured(t, v, unit)]++
			for _, d := range dims(nought(), dim(0, 0, 0, 0, 1), dim(1, 0, 0, 0, 0), dim(0, 0, 0, 0, 2), dim(0, 0, -1, 0, 1)) {
				told[checkIn(t, amount(v, d...), unit)]++
			}
		}
	}
	values := someValues()
	chanceUnits(61, 20000, func(unit string) {
		v := values[len(unit)%len(values)]
		told[checkMeasured(t, v, unit)]++
		u, is := exactUnit(unit)
		if is {
			told[checkIn(t, amount(v, u.powers[:]...), unit)]++
		}
	})
	if told[true] < 10000 || told[false] < 10000 {
		t.Error("too few", told)
	}
}

func TestPlusAndProductAreExact(t *testing.T) {
	sums, products := map[bool]int{}, map[bool]int{}
	chanceQuantities(62, 40000, func(a quantity, b quantity) {
		sums[checkPlus(t, a, b)]++
		products[checkProduct(t, a, b)]++
	})
	for _, told := range []map[bool]int{sums, products} {
		if told[true] < 5000 || told[false] < 5000 {
			t.Error("too few", sums, products)
		}
	}
	for _, v := range rightRatios() {
		for _, w := range rightRatios() {
			checkPlus(t, amount(v, 1, 0, -2, 0, 0), amount(w, 1, 0, -2, 0, 0))
			checkProduct(t, amount(v, 1, 0, -2, 0, 0), amount(w, 0, 1, 0, 0, 0))
		}
	}
	for _, d := range everyPower() {
		for _, e := range everyPower() {
			checkPlus(t, amount(frac(1, 2), d...), amount(frac(1, 3), e...))
			checkProduct(t, amount(frac(1, 2), d...), amount(frac(1, 3), e...))
		}
	}
}

// Promise 6, its first part: what is Plus has the one dimension that both have, whichever comes first; where the
// dimensions are unlike, in any one power, there is none.
func TestWhatIsPlusHasOneDimension(t *testing.T) {
	sums := 0
	chanceQuantities(63, 20000, func(a quantity, b quantity) {
		sum, is := impl.Plus(a, b)
		other, otherIs := impl.Plus(b, a)
		if is != otherIs || !sameQuantity(sum, other) {
			t.Fatalf("Plus(%v, %v): %v %v, and the other way round %v %v", a, b, sum, is, other, otherIs)
		}
		if !is {
			return
		}
		sums++
		if !impl.QuantityOk(sum) || !slices.Equal(sum.Dim, a.Dim) || !slices.Equal(sum.Dim, b.Dim) {
			t.Fatalf("Plus(%v, %v): %v", a, b, sum)
		}
	})
	if sums < 2000 {
		t.Error("too few", sums)
	}
	for _, d := range everyPower() {
		a := amount(frac(1, 2), d...)
		for place := range 5 {
			for power := int64(-9); power <= 9; power++ {
				b := amount(frac(1, 3), slices.Clone(d)...)
				b.Dim[place] = power
				if sum, is := impl.Plus(a, b); is != (power == d[place]) || is && sum.Value != frac(5, 6) {
					t.Fatalf("Plus(%v, %v): %v %v", a, b, sum, is)
				}
			}
		}
	}
}

// Promise 6, its second part: it is told and the same, whatever was Measured.
func TestMeasuredInItsUnitIsWhatItWas(t *testing.T) {
	told := 0
	check := func(v ratio, unit string) {
		t.Helper()
		q, is := impl.Measured(v, unit)
		if !is {
			return
		}
		told++
		if !impl.QuantityOk(q) || !slices.Equal(q.Dim, impl.Dims(unit)) {
			t.Fatalf("Measured(%v, %q): %v", v, unit, q)
		}
		if got, fine := impl.In(q, unit); !fine || got != v {
			t.Fatalf("%v %q is %v, and in its unit %v %v", v, unit, q, got, fine)
		}
	}
	for _, v := range append(rightRatios(), someValues()...) {
		for _, unit := range append(slices.Clone(wordNames), slices.Concat(likeUnits()...)...) {
			check(v, unit)
		}
	}
	chanceUnits(64, 20000, func(unit string) { check(frac(-7, 3), unit) })
	if told < 20000 {
		t.Error("too few", told)
	}
}

// What is Measured in one unit is in another one what Converted tells; of a unit alone it is the factor and the dimension.
func TestQuantitiesGoByTheirUnits(t *testing.T) {
	told := map[bool]int{}
	for _, v := range append(someValues(), wrongRatios()[:6]...) {
		for _, row := range likeUnits() {
			for _, from := range row {
				q, _ := impl.Measured(v, from)
				for _, to := range append(row, "A^2", "") {
					want, wantIs := impl.Converted(v, from, to)
					got, is := impl.In(q, to)
					if got != want || is != wantIs {
						t.Fatalf("%v %q is %v, in %q %v %v, not %v %v", v, from, q, to, got, is, want, wantIs)
					}
					told[is]++
				}
			}
		}
	}
	if told[true] < 5000 || told[false] < 5000 {
		t.Error("too few", told)
	}
	for _, unit := range wordNames {
		factor, d, _ := impl.UnitOf(unit)
		if q, is := impl.Measured(frac(1, 1), unit); unit != "C" && (!is || q.Value != factor || !slices.Equal(q.Dim, d)) {
			t.Errorf("one %s is %v", unit, q)
		}
	}
}

// A sum in a unit is the sum of what both are in it; a product in a product of units is the product. (Degrees alone
// have a zero, which would be there twice.)
func TestSumsAndProductsGoByTheirUnits(t *testing.T) {
	sums, products := 0, 0
	units := []string{"m", "km", "in", "s", "h", "kg", "mA", "K", "C^1", "m/s", "km/h", "kW.h", "1", "km/m", "Hz"}
	for i, v := range someValues() {
		w := someValues()[(5*i+3)%len(someValues())]
		for _, one := range units {
			a, _ := impl.Measured(v, one)
			for _, two := range units {
				b, _ := impl.Measured(w, two)
				sum, isSum := impl.Plus(a, b)
				first, _ := impl.In(a, one)
				second, _ := impl.In(b, one)
				if got, is := impl.In(sum, one); isSum && is {
					if want, fits := impl.Add(first, second); fits && got != want {
						t.Fatalf("%v and %v in %s: %v, not %v", a, b, one, got, want)
					}
					sums++
				}
				product, isProduct := impl.Product(a, b)
				if one == "1" || two == "1" || strings.Contains(one+two, "/") || !isProduct {
					continue
				}
				if got, is := impl.In(product, one+"."+two); is {
					if want, fits := impl.Mul(v, w); fits && got != want {
						t.Fatalf("%v times %v in %s.%s: %v, not %v", a, b, one, two, got, want)
					}
					products++
				}
			}
		}
	}
	if sums < 200 || products < 300 {
		t.Error("too few", sums, products)
	}
}

// Where both ways are told, they come to one end: sums of three, products of three, and a product with a sum.
func TestPlusAndProductFit(t *testing.T) {
	told := 0
	same := func(a quantity, aIs bool, b quantity, bIs bool) {
		t.Helper()
		if !aIs || !bIs {
			return
		}
		told++
		if !sameQuantity(a, b) {
			t.Fatalf("%v, not %v", a, b)
		}
	}
	c := amount(frac(-5, 6), 1, 0, -1, 0, 0)
	chanceQuantities(65, 20000, func(a quantity, b quantity) {
		ab, _ := impl.Product(a, b)
		ac, _ := impl.Product(a, c)
		bc, _ := impl.Product(b, c)
		left, leftIs := impl.Product(ab, c)
		right, rightIs := impl.Product(a, bc)
		same(left, leftIs, right, rightIs)
		sum, _ := impl.Plus(a, b)
		left, leftIs = impl.Product(sum, c)
		right, rightIs = impl.Plus(ac, bc)
		same(left, leftIs, right, rightIs)
		left, leftIs = impl.Plus(sum, a)
		twice, _ := impl.Plus(a, a)
		right, rightIs = impl.Plus(twice, b)
		same(left, leftIs, right, rightIs)
	})
	if told < 5000 {
		t.Error("too few", told)
	}
}
