package tests

import (
	"math"
	"math/big"
	"testing"

	"loop.example/g00069/impl"
)

type ratio = impl.Ratio

var zero ratio

const (
	maxPart = 1000000000 // written out, so that another MaxPart is noticed
	twoTo62 = 1 << 62
)

func frac(n int64, d int64) ratio { return ratio{N: n, D: d} }

// exact tells what the document calls right, by other means than the program's.
func exact(r ratio) (*big.Rat, bool) {
	if r.D < 1 || r.D > maxPart || r.N < -maxPart || r.N > maxPart {
		return nil, false
	}
	q := big.NewRat(r.N, r.D)
	return q, q.Num().Int64() == r.N && q.Denom().Int64() == r.D
}

// fitted is the Ratio of q, where its parts are not too great.
func fitted(q *big.Rat) (ratio, bool) {
	if q == nil || !q.Num().IsInt64() || !q.Denom().IsInt64() {
		return zero, false
	}
	r := frac(q.Num().Int64(), q.Denom().Int64())
	if _, is := exact(r); !is {
		return zero, false
	}
	return r, true
}

func edgeNumbers() []int64 {
	middle := []int64{0, 1, 2, 3, 4, 6, 7, 10, 60, 31622, 31623, maxPart / 2, maxPart - 1, maxPart,
		maxPart + 1, 2 * maxPart, math.MaxInt32, 1 << 31, 1 << 32, maxPart * maxPart, twoTo62 - 1, twoTo62,
		twoTo62 + 1, math.MaxInt64 - 1, math.MaxInt64}
	list := []int64{math.MinInt64, math.MinInt64 + 1}
	for _, n := range middle {
		list = append(list, n)
		if n != 0 {
			list = append(list, -n)
		}
	}
	return list
}

// anyRatios are all pairs of edge numbers: right fractions and wrong ones.
func anyRatios() []ratio {
	var list []ratio
	for _, n := range edgeNumbers() {
		for _, d := range edgeNumbers() {
			list = append(list, frac(n, d))
		}
	}
	return list
}

// rightRatios are small fractions of each sign, and those at the limits.
func rightRatios() []ratio {
	var list []ratio
	for n := int64(-6); n <= 6; n++ {
		for d := int64(1); d <= 6; d++ {
			if r := frac(n, d); isExact(r) {
				list = append(list, r)
			}
		}
	}
	for _, r := range anyRatios() {
		if isExact(r) && (r.N > 6 || r.N < -6 || r.D > 6) {
			list = append(list, r)
		}
	}
	return list
}

func isExact(r ratio) bool {
	_, is := exact(r)
	return is
}

// wrongRatios have each reason there is for a fraction not to be right.
func wrongRatios() []ratio {
	return []ratio{{}, {N: 1}, {N: -1}, {D: 2}, {D: maxPart}, {D: -1}, {N: 1, D: -2}, {N: -1, D: -2},
		{N: 2, D: 4}, {N: -2, D: 4}, {N: 6, D: 3}, {N: maxPart, D: maxPart}, {N: maxPart + 1, D: 1},
		{N: -maxPart - 1, D: 1}, {N: 1, D: maxPart + 1}, {N: twoTo62, D: 1}, {N: 1, D: twoTo62},
		{N: math.MaxInt64, D: 1}, {N: math.MinInt64, D: 1}, {N: 1, D: math.MaxInt64}, {N: 1, D: math.MinInt64},
		{N: math.MinInt64, D: math.MinInt64}, {N: math.MinInt64, D: -1}, {N: 0, D: math.MinInt64},
		{N: math.MinInt64, D: 0}, {N: math.MaxInt64, D: math.MinInt64}}
}

// A pairing makes one thing of two, by the program and by other means. Where that is refused, the zero value is told.
type pairing[Thing comparable] struct {
	name  string
	by    func(Thing, Thing) (Thing, bool)
	exact func(Thing, Thing) (Thing, bool)
}

func (p pairing[Thing]) check(t *testing.T, a Thing, b Thing) bool {
	t.Helper()
	want, wantIs := p.exact(a, b)
	if got, is := p.by(a, b); is != wantIs || got != want {
		t.Fatalf("%s(%v, %v): %v %v, not %v %v", p.name, a, b, got, is, want, wantIs)
	}
	return wantIs
}

func (p pairing[Thing]) checkBothWays(t *testing.T, a Thing, b Thing) {
	t.Helper()
	p.check(t, a, b)
	p.check(t, b, a)
}

// tells holds the third against what is made of the first two; the zero value there stands for what is refused.
func (p pairing[Thing]) tells(t *testing.T, c [3]Thing) {
	t.Helper()
	var none Thing
	if got, is := p.by(c[0], c[1]); got != c[2] || is != (c[2] != none) {
		t.Errorf("%s(%v, %v): %v %v, not %v", p.name, c[0], c[1], got, is, c[2])
	}
	p.checkBothWays(t, c[0], c[1])
}

// tellsBothWays is for what the order of both doesn't change.
func (p pairing[Thing]) tellsBothWays(t *testing.T, c [3]Thing) {
	t.Helper()
	p.tells(t, c)
	p.tells(t, [3]Thing{c[1], c[0], c[2]})
}

func (p pairing[Thing]) refusesBothWays(t *testing.T, a Thing, b Thing) {
	t.Helper()
	var none Thing
	p.tellsBothWays(t, [3]Thing{a, b, none})
}
