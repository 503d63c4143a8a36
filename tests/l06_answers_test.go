package tests

import (
	"math"
	"slices"
	"strings"
	"testing"

	"loop.example/g00069/impl"
)

// someQuantities are right ones and wrong ones.
func someQuantities() []quantity {
	list := wrongQuantities()
	for _, v := range []ratio{frac(0, 1), frac(1, 1), frac(-7, 3), frac(5863, 20), frac(maxPart, 1), frac(-maxPart, 1), frac(1, maxPart)} {
		for _, d := range dims(nought(), dim(1, 0, 0, 0, 0), dim(0, 0, 0, 0, 1), dim(5, 0, 0, 0, 0), dim(-1, 1, -2, 0, 0), dim(9, -9, 9, -9, 9), dim(-9, 9, -9, 9, -9)) {
			list = append(list, amount(v, d...))
		}
	}
	return list
}

func quantityUnits() []string {
	return append([]string{"1", "", "m", "km", "mm", "C", "C^1", "C/s", "K", "mK", "s", "Pa", "m^5", "in^3", "km^4", "m^9.m", "m^9.m/m", "uin", "kC", "x", "m..s", "1/s", "C.C", "\xff", "m\x00", "°C"}, strings.Repeat("m.", 10000), strings.Repeat("m^", 10000), strings.Repeat("s.Hz.", 5000)+"m")
}

// Promise 21 for chapter 6: each function at quantities of each kind and texts of each kind, on either side.
func TestQuantitiesAtEveryArgument(t *testing.T) {
	list := someQuantities()
	for i, a := range list {
		checkQuantity(t, a)
		for _, b := range append(list[len(list)-49:], a, list[(7*i+1)%len(list)], quantity{}) {
			checkPlus(t, a, b)
			checkPlus(t, b, a)
			checkProduct(t, a, b)
			checkProduct(t, b, a)
		}
		for _, unit := range quantityUnits()[:26] {
			checkIn(t, a, unit)
			checkMeasured(t, a.Value, unit)
		}
	}
	for _, unit := range append(quantityUnits(), someTexts()...) {
		for _, q := range append(list[len(list)-49:], quantity{}) {
			checkIn(t, q, unit)
		}
		for _, v := range []ratio{frac(0, 1), frac(20, 1), frac(-7, 3), frac(maxPart, 1), zero} {
			checkMeasured(t, v, unit)
		}
	}
}

func TestQuantitiesOfEveryNumber(t *testing.T) {
	for _, v := range anyRatios() {
		for _, unit := range []string{"1", "m", "km", "mm", "in", "C", "C^1", "x"} {
			checkMeasured(t, v, unit)
			checkIn(t, amount(v, 1, 0, 0, 0, 0), unit)
			checkIn(t, amount(v, 0, 0, 0, 0, 1), unit)
			checkIn(t, amount(v, 0, 0, 0, 0, 0), unit)
		}
		for _, w := range []ratio{frac(0, 1), frac(1, 1), frac(-3, 2), frac(maxPart, 1), frac(1, maxPart), v} {
			checkPlus(t, amount(v, 1, 0, -2, 0, 0), amount(w, 1, 0, -2, 0, 0))
			checkProduct(t, amount(v, 1, 0, -2, 0, 0), amount(w, 0, 0, 2, 0, 0))
			checkPlus(t, amount(w, 0, 0, 0, 0, 0), amount(v, 0, 0, 0, 0, 0))
			checkProduct(t, amount(w, 0, 0, 0, 0, 0), amount(v, 0, 0, 0, 0, 0))
		}
	}
}

// What is no quantity is refused on either side, beside any other one and in any unit.
func TestQuantitiesRefuseWhatIsNone(t *testing.T) {
	for _, wrong := range wrongQuantities() {
		if impl.QuantityOk(wrong) {
			t.Fatalf("%v is taken", wrong)
		}
		for _, other := range []quantity{wrong, {}, amount(frac(1, 1), wrong.Dim...), amount(wrong.Value, 0, 0, 0, 0, 0), amount(frac(0, 1), 0, 0, 0, 0, 0), amount(frac(1, 1), 1, 0, -2, 0, 0), amount(frac(2, 1), -9, 9, -9, 9, -9)} {
			for _, pair := range [][2]quantity{{wrong, other}, {other, wrong}} {
				if got, is := impl.Plus(pair[0], pair[1]); is || !sameQuantity(got, quantity{}) {
					t.Fatalf("Plus(%v, %v): %v %v", pair[0], pair[1], got, is)
				}
				if got, is := impl.Product(pair[0], pair[1]); is || !sameQuantity(got, quantity{}) {
					t.Fatalf("Product(%v, %v): %v %v", pair[0], pair[1], got, is)
				}
			}
		}
		for _, unit := range []string{"1", "m", "C", "m/s^2", "m^9.s^9.K^9/kg^9.A^9", "m^-9", "", "x"} {
			if got, is := impl.In(wrong, unit); is || got != zero {
				t.Fatalf("In(%v, %q): %v %v", wrong, unit, got, is)
			}
		}
	}
	for _, v := range wrongRatios() {
		for _, unit := range quantityUnits() {
			if got, is := impl.Measured(v, unit); is || !sameQuantity(got, quantity{}) {
				t.Fatalf("Measured(%v, %.20q): %v %v", v, unit, got, is)
			}
		}
	}
	for _, unit := range append(noUnits(), "km^4", "m^9.m", "uin") {
		for _, v := range someValues() {
			if got, is := impl.Measured(v, unit); is || !sameQuantity(got, quantity{}) {
				t.Fatalf("Measured(%v, %.20q): %v %v", v, unit, got, is)
			}
			if got, is := impl.In(amount(v, 0, 0, 0, 0, 0), unit); is || got != zero {
				t.Fatalf("In(%v, %.20q): %v %v", v, unit, got, is)
			}
		}
	}
}

// roomyPair are both dimensions with room behind them, each in memory of its own.
func roomyPair(a quantity, b quantity) (quantity, quantity, roomy[int64]) {
	room := dimsWithRoom(dims(a.Dim, b.Dim))
	a.Dim, b.Dim = room.rows[0], room.rows[1]
	return a, b, room
}

// Arguments stay, with the room behind them; what is answered hangs on neither.
func TestQuantitiesLeaveTheirArguments(t *testing.T) {
	list := someQuantities()
	for i, q := range list {
		for _, other := range append(list[len(list)-10:], q, list[(11*i+5)%len(list)]) {
			a, b, room := roomyPair(q, other)
			checkQuantity(t, a)
			checkPlus(t, a, b)
			checkPlus(t, b, a)
			checkPlus(t, a, a)
			checkProduct(t, a, b)
			checkProduct(t, b, a)
			checkProduct(t, a, a)
			for _, unit := range []string{"1", "m", "C", "Pa", "x"} {
				checkIn(t, a, unit)
			}
			if !room.stayed() {
				t.Fatalf("%v has become %v", room.before, room.room)
			}
		}
	}
}

// A text that is cut out of a longer one is read to its own end.
func TestQuantitiesReadTheirUnitAlone(t *testing.T) {
	for _, unit := range []string{"C", "km", "1", "m/s^2", "C^1", "x", ""} {
		for _, around := range []string{"", "m", "k", "^2", ".", "/", "1", "-", "C", "\xff"} {
			long := around + unit + around
			before := strings.Clone(long)
			inner := long[len(around) : len(around)+len(unit)]
			checkMeasured(t, frac(20, 1), inner)
			u, _ := exactUnit(unit)
			checkIn(t, amount(frac(20, 1), u.powers[:]...), inner)
			if long != before {
				t.Fatalf("%q has become %q", before, long)
			}
		}
	}
}

func TestQuantityAnswersAreNewMemory(t *testing.T) {
	for _, unit := range quantityUnits()[:20] {
		newMemory(t, "Measured", dimMark, func() [][]int64 {
			q, _ := impl.Measured(frac(20, 1), unit)
			p, _ := impl.Measured(frac(0, 1), unit)
			return dims(q.Dim, p.Dim)
		})
		// What was written over is told as before.
		checkMeasured(t, frac(20, 1), unit)
		checkUnit(t, unit)
	}
	list := someQuantities()
	for i, q := range list {
		for _, other := range append(list[len(list)-10:], q, list[(11*i+5)%len(list)], amount(frac(1, 1), 0, 0, 0, 0, 0)) {
			for _, answer := range []func(quantity, quantity) (quantity, bool){impl.Plus, impl.Product} {
				a, b, room := roomyPair(q, other)
				newMemory(t, "a sum or product", dimMark, func() [][]int64 {
					there, _ := answer(a, b)
					back, _ := answer(b, a)
					itself, _ := answer(a, a)
					return dims(there.Dim, back.Dim, itself.Dim)
				}, room.rows)
			}
		}
	}
}

// Dimensions that overlap in memory, or are one list, are as good as others that are alike.
func TestQuantitiesOfSharedDimensions(t *testing.T) {
	room := dim(1, 0, -1, 0, 0, 0, -1, 0, 0, math.MaxInt64)
	before := slices.Clone(room)
	for _, c := range [][2]int{{0, 0}, {0, 4}, {4, 0}, {0, 1}, {3, 4}, {4, 4}, {4, 5}, {5, 5}} {
		a, b := amount(frac(1, 2), room[c[0]:c[0]+5]...), amount(frac(-1, 3), room[c[1]:c[1]+5]...)
		checkPlus(t, a, b)
		checkProduct(t, a, b)
		sum, _ := impl.Plus(a, b)
		product, _ := impl.Product(a, b)
		scribbled(sum.Dim, 7777)
		scribbled(product.Dim, 7777)
		if !slices.Equal(room, before) {
			t.Fatalf("%v has become %v", before, room)
		}
	}
}

// The same arguments have the same answers, whatever was asked in between: nothing is kept.
func TestQuantitiesAnswerAlikeAgain(t *testing.T) {
	list := someQuantities()
	tell := func(i int) []quantity {
		q, other, unit := list[i], list[(11*i+5)%len(list)], quantityUnits()[i%20]
		sum, _ := impl.Plus(q, other)
		twice, _ := impl.Plus(q, q)
		product, _ := impl.Product(q, other)
		v, _ := impl.In(q, unit)
		measured, _ := impl.Measured(q.Value, unit)
		return []quantity{sum, twice, product, amount(v), measured}
	}
	var told [][]quantity
	for i := range list {
		told = append(told, tell(i))
	}
	for i := len(list) - 1; i >= 0; i-- {
		if !slices.EqualFunc(tell(i), told[i], sameQuantity) {
			t.Fatalf("%v: %v, not %v", list[i], tell(i), told[i])
		}
	}
}
