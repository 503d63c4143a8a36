package tests

import (
	"math/big"
	"math/rand"
	"slices"
	"testing"

	"loop.example/g00069/impl"
)

type quantity = impl.Quantity

func amount(v ratio, powers ...int64) quantity { return quantity{Value: v, Dim: powers} }

// isQuantity tells what the document calls a quantity, by other means than the program's.
func isQuantity(q quantity) bool { return isExact(q.Value) && isDim(q.Dim) }

func sameQuantity(a quantity, b quantity) bool {
	return a.Value == b.Value && slices.Equal(a.Dim, b.Dim)
}

// exactQuantity is the zero Quantity where the value is too great, or the powers are no dimension.
func exactQuantity(value *big.Rat, powers []int64) (quantity, bool) {
	v, is := fitted(value)
	if !is || !isDim(powers) {
		return quantity{}, false
	}
	return amount(v, powers...), true
}

// exactMeasured has a step for the zero, where there is one, and a step for the factor; each of them must be right.
func exactMeasured(v ratio, unit string) (quantity, bool) {
	u, is := exactUnit(unit)
	q, right := exact(v)
	if !is || !right {
		return quantity{}, false
	}
	if unit == "C" {
		q = new(big.Rat).Add(q, big.NewRat(27315, 100))
	}
	if _, fits := fitted(q); !fits {
		return quantity{}, false
	}
	return exactQuantity(new(big.Rat).Mul(q, u.factor), u.powers[:])
}

func exactPlus(a quantity, b quantity) (quantity, bool) {
	if !isQuantity(a) || !isQuantity(b) || !slices.Equal(a.Dim, b.Dim) {
		return quantity{}, false
	}
	v, _ := exact(a.Value)
	w, _ := exact(b.Value)
	return exactQuantity(new(big.Rat).Add(v, w), a.Dim)
}

func exactProduct(a quantity, b quantity) (quantity, bool) {
	if !isQuantity(a) || !isQuantity(b) {
		return quantity{}, false
	}
	v, _ := exact(a.Value)
	w, _ := exact(b.Value)
	return exactQuantity(new(big.Rat).Mul(v, w), exactAlike(dims(a.Dim, b.Dim), dim(1, 1)))
}

// exactIn has its two steps the other way round.
func exactIn(q quantity, unit string) (ratio, bool) {
	u, is := exactUnit(unit)
	if !is || !isQuantity(q) || !slices.Equal(q.Dim, u.powers[:]) {
		return zero, false
	}
	v, _ := exact(q.Value)
	v = new(big.Rat).Quo(v, u.factor)
	if _, fits := fitted(v); !fits {
		return zero, false
	}
	if unit == "C" {
		v = new(big.Rat).Sub(v, big.NewRat(27315, 100))
	}
	return fitted(v)
}

func checkQuantity(t *testing.T, q quantity) bool {
	t.Helper()
	if got := impl.QuantityOk(q); got != isQuantity(q) {
		t.Fatalf("QuantityOk(%v): %v", q, got)
	}
	return isQuantity(q)
}

func checkMeasured(t *testing.T, v ratio, unit string) bool {
	t.Helper()
	want, wantIs := exactMeasured(v, unit)
	if got, is := impl.Measured(v, unit); is != wantIs || !sameQuantity(got, want) {
		t.Fatalf("Measured(%v, %q): %v %v, not %v %v", v, unit, got, is, want, wantIs)
	}
	return wantIs
}

func checkPlus(t *testing.T, a quantity, b quantity) bool {
	t.Helper()
	want, wantIs := exactPlus(a, b)
	if got, is := impl.Plus(a, b); is != wantIs || !sameQuantity(got, want) {
		t.Fatalf("Plus(%v, %v): %v %v, not %v %v", a, b, got, is, want, wantIs)
	}
	return wantIs
}

func checkProduct(t *testing.T, a quantity, b quantity) bool {
	t.Helper()
	want, wantIs := exactProduct(a, b)
	if got, is := impl.Product(a, b); is != wantIs || !sameQuantity(got, want) {
		t.Fatalf("Product(%v, %v): %v %v, not %v %v", a, b, got, is, want, wantIs)
	}
	return wantIs
}

func checkIn(t *testing.T, q quantity, unit string) bool {
	t.Helper()
	want, wantIs := exactIn(q, unit)
	if got, is := impl.In(q, unit); is != wantIs || got != want {
		t.Fatalf("In(%v, %q): %v %v, not %v %v", q, unit, got, is, want, wantIs)
	}
	return wantIs
}

// wrongQuantities have each reason there is for one not to be a quantity, and two at a time.
func wrongQuantities() []quantity {
	list := []quantity{{}, {Dim: dim()}, {Value: frac(1, 1), Dim: dim()}}
	for _, v := range wrongRatios() {
		list = append(list, amount(v, 0, 0, 0, 0, 0), amount(v, 1, 0, -2, 0, 0), amount(v, -9, 9, -9, 9, -9), amount(v, 10, 0, 0, 0, 0), amount(v, 0, 0, 0, 0))
	}
	for _, d := range wrongDims() {
		list = append(list, amount(frac(1, 1), d...), amount(frac(0, 1), d...), amount(frac(-7, 3), d...))
	}
	return list
}

// chanceQuantities are by chance (of a fixed seed): pairs of quantities of each kind, every third one of like dimensions.
func chanceQuantities(seed int64, times int, tell func(quantity, quantity)) {
	chance, values := rand.New(rand.NewSource(seed)), rightRatios()
	value := func() ratio {
		if chance.Intn(2) == 0 {
			return values[chance.Intn(len(values))]
		}
		return frac(chance.Int63n(200001)-100000, chance.Int63n(2000)+1)
	}
	for range times {
		list := chanceList(chance, 2)
		a, b := amount(value(), list[0]...), amount(value(), list[1]...)
		if chance.Intn(3) == 0 {
			b.Dim = slices.Clone(a.Dim)
		}
		tell(a, b)
	}
}
