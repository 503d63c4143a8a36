package tests

import (
	"math/big"
	"math/rand"
	"testing"

	"loop.example/g00069/impl"
)

type interval = impl.Range

var noInterval interval

func span(low ratio, high ratio) interval { return interval{Low: low, High: high} }

// exactSpan are both ends, where the document calls it a Range, by other means than the program's.
func exactSpan(r interval) (*big.Rat, *big.Rat, bool) {
	low, lowIs := exact(r.Low)
	high, highIs := exact(r.High)
	if !lowIs || !highIs || low.Cmp(high) > 0 {
		return nil, nil, false
	}
	return low, high, true
}

func isSpan(r interval) bool {
	_, _, is := exactSpan(r)
	return is
}

// spanned is the zero Range where an end is too great, or the ends have changed places.
func spanned(low *big.Rat, high *big.Rat) (interval, bool) {
	l, lowIs := fitted(low)
	h, highIs := fitted(high)
	if !lowIs || !highIs || low.Cmp(high) > 0 {
		return noInterval, false
	}
	return span(l, h), true
}

func exactRangeAdd(a interval, b interval) (interval, bool) {
	aLow, aHigh, aIs := exactSpan(a)
	bLow, bHigh, bIs := exactSpan(b)
	if !aIs || !bIs {
		return noInterval, false
	}
	return spanned(new(big.Rat).Add(aLow, bLow), new(big.Rat).Add(aHigh, bHigh))
}

// exactRangeMul goes along b's ends: times one number of b, a's ends stay in order, or change places below 0. The ends
// of all are to be right, and so are the products on the way.
func exactRangeMul(a interval, b interval) (interval, bool) {
	aLow, aHigh, aIs := exactSpan(a)
	bLow, bHigh, bIs := exactSpan(b)
	if !aIs || !bIs {
		return noInterval, false
	}
	var k reckoning
	times := func(y *big.Rat) (*big.Rat, *big.Rat) {
		if y.Sign() < 0 {
			return k.product(aHigh, y), k.product(aLow, y)
		}
		return k.product(aLow, y), k.product(aHigh, y)
	}
	low, high := times(bLow)
	otherLow, otherHigh := times(bHigh)
	if low.Cmp(otherLow) > 0 {
		low = otherLow
	}
	if high.Cmp(otherHigh) < 0 {
		high = otherHigh
	}
	if k.tooGreat {
		return noInterval, false
	}
	return spanned(low, high)
}

func exactWithin(r interval, v ratio) bool {
	low, high, is := exactSpan(r)
	q, right := exact(v)
	return is && right && low.Cmp(q) <= 0 && q.Cmp(high) <= 0
}

func exactMeet(a interval, b interval) (interval, bool) {
	low, high, aIs := exactSpan(a)
	bLow, bHigh, bIs := exactSpan(b)
	if !aIs || !bIs {
		return noInterval, false
	}
	if bLow.Cmp(low) > 0 {
		low = bLow
	}
	if bHigh.Cmp(high) < 0 {
		high = bHigh
	}
	return spanned(low, high)
}

func exactWidth(r interval) (ratio, bool) {
	low, high, is := exactSpan(r)
	if !is {
		return zero, false
	}
	return fitted(new(big.Rat).Sub(high, low))
}

func checkSpan(t *testing.T, r interval) bool {
	t.Helper()
	if got := impl.RangeOk(r); got != isSpan(r) {
		t.Fatalf("RangeOk(%v): %v", r, got)
	}
	return isSpan(r)
}

func pairings() []pairing[interval] {
	return []pairing[interval]{
		{"RangeAdd", impl.RangeAdd, exactRangeAdd},
		{"RangeMul", impl.RangeMul, exactRangeMul},
		{"Meet", impl.Meet, exactMeet},
	}
}

func checkPairs(t *testing.T, a interval, b interval) {
	t.Helper()
	for _, p := range pairings() {
		p.checkBothWays(t, a, b)
	}
}

func checkWithin(t *testing.T, r interval, v ratio) bool {
	t.Helper()
	if got := impl.Within(r, v); got != exactWithin(r, v) {
		t.Fatalf("Within(%v, %v): %v", r, v, got)
	}
	return exactWithin(r, v)
}

func checkWidth(t *testing.T, r interval) bool {
	t.Helper()
	want, wantIs := exactWidth(r)
	if got, is := impl.Width(r); is != wantIs || got != want {
		t.Fatalf("Width(%v): %v %v, not %v %v", r, got, is, want, wantIs)
	}
	return wantIs
}

// spansOf are all Ranges with these ends, those of one number among them.
func spansOf(ends []ratio) []interval {
	var list []interval
	for _, low := range ends {
		for _, high := range ends {
			if r := span(low, high); isSpan(r) {
				list = append(list, r)
			}
		}
	}
	return list
}

// smallSpans lie below 0, above 0, with 0 within, with 0 at either end, and at 0 alone.
func smallSpans() []interval {
	return spansOf([]ratio{frac(-3, 1), frac(-3, 2), frac(-1, 1), frac(-1, 3), frac(0, 1), frac(1, 2), frac(1, 1), frac(4, 3), frac(2, 1)})
}

// edgeSpans have ends of which sums, products and widths are just fractions or too great.
func edgeSpans() []interval {
	return spansOf([]ratio{frac(-maxPart, 1), frac(1-maxPart, 1), frac(-maxPart/2, 1), frac(-1, 1), frac(-1, 2), frac(-1, maxPart), frac(0, 1), frac(1, maxPart), frac(1, 99991), frac(1, 1),
		frac(maxPart, maxPart-1), frac(3, 2), frac(99989, 1), frac(maxPart/2, 1), frac(maxPart-1, 1), frac(maxPart, 1)})
}

// turnedSpans have two fractions as ends, but Low above High, some of them by as little as can be.
func turnedSpans() []interval {
	return []interval{span(frac(1, 1), frac(0, 1)), span(frac(0, 1), frac(-1, maxPart)), span(frac(1, maxPart), frac(0, 1)), span(frac(1, maxPart), frac(-1, maxPart)), span(frac(maxPart, 1), frac(-maxPart, 1)),
		span(frac(-1, 2), frac(-2, 3)), span(frac(1, 999999999), frac(1, maxPart)), span(frac(-1, maxPart), frac(-1, 999999999)), span(frac(1, 2), frac(499999999, 999999999)), span(frac(maxPart, 1), frac(maxPart-1, 1)),
		span(frac(1-maxPart, 1), frac(-maxPart, 1)), span(frac(maxPart, maxPart-1), frac(1, 1)), span(frac(999999998, 999999999), frac(999999997, 999999998)), span(frac(4, 1), frac(-1, 1))}
}

// wrongSpans have each reason there is for a Range to be none: an end that is no fraction, either or both, or the ends turned.
func wrongSpans() []interval {
	list := append(turnedSpans(), noInterval)
	for _, wrong := range wrongRatios() {
		list = append(list, span(wrong, wrong))
		for _, r := range []ratio{frac(0, 1), frac(1, 2), frac(-maxPart, 1), frac(maxPart, 1)} {
			list = append(list, span(wrong, r), span(r, wrong))
		}
	}
	return list
}

// chanceSpans are by chance (of a fixed seed): pairs of Ranges with parts of each length, some of them of one number.
func chanceSpans(seed int64, times int, tell func(interval, interval)) {
	chance := rand.New(rand.NewSource(seed))
	for range times {
		tell(chanceSpan(chance), chanceSpan(chance))
	}
}

func chanceSpan(chance *rand.Rand) interval {
	kind := chance.Intn(5) + 1
	low, high := chanceEnd(chance, kind), chanceEnd(chance, kind)
	if chance.Intn(10) == 0 {
		high = low
	}
	if !isSpan(span(low, high)) {
		low, high = high, low
	}
	return span(low, high)
}

func chanceEnd(chance *rand.Rand, kind int) ratio {
	r := chanceRatio(chance, kind)
	if chance.Intn(2) == 0 {
		r.N = -r.N
	}
	return r
}
