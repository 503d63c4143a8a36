package tests

import (
	"math/big"
	"math/rand"
	"slices"
	"testing"

	"loop.example/g00069/impl"
)

// claims are told by pairs of whole numbers: Low, High.
func claims(numbers ...int64) []interval {
	var list []interval
	for pair := range slices.Chunk(numbers, 2) {
		list = append(list, wholes(pair[0], pair[1]))
	}
	return list
}

type exactClaim struct{ low, high *big.Rat }

// exactClaims tells what the document calls claims, by other means than the program's.
func exactClaims(list []interval) ([]exactClaim, bool) {
	var all []exactClaim
	for _, r := range list {
		low, high, is := exactSpan(r)
		if !is {
			return nil, false
		}
		all = append(all, exactClaim{low, high})
	}
	return all, len(all) > 0 && len(all) < 13
}

// depthOf is how many of the claims are left when those that lie above v, or below it, are taken away.
func depthOf(all []exactClaim, v *big.Rat) int64 {
	return int64(len(slices.DeleteFunc(slices.Clone(all), func(c exactClaim) bool { return c.low.Cmp(v) > 0 || c.high.Cmp(v) < 0 })))
}

// endsAndMiddles are all ends of the claims, rising, with the middle between each two behind the less one.
func endsAndMiddles(all []exactClaim) []*big.Rat {
	var ends []*big.Rat
	for _, c := range all {
		ends = append(ends, c.low, c.high)
	}
	slices.SortFunc(ends, (*big.Rat).Cmp)
	ends = slices.CompactFunc(ends, func(a, b *big.Rat) bool { return a.Cmp(b) == 0 })
	list := ends[:1:1]
	for i, e := range ends[1:] {
		middle := new(big.Rat).Add(ends[i], e)
		list = append(list, middle.Quo(middle, big.NewRat(2, 1)), e)
	}
	return list
}

// exactAgreed looks at each end and into each gap between two of them: there all numbers are in as many claims.
func exactAgreed(list []interval) (interval, int64) {
	all, is := exactClaims(list)
	if !is {
		return noInterval, -1
	}
	numbers := endsAndMiddles(all)
	var depths []int64
	for _, v := range numbers {
		depths = append(depths, depthOf(all, v))
	}
	most := slices.Max(depths)
	first := slices.Index(depths, most)
	last := first
	for last+1 < len(depths) && depths[last+1] == most {
		last++
	}
	// Where it would begin or end in a gap, no Range has it; it never does.
	if first%2 != 0 || last%2 != 0 {
		return noInterval, -2
	}
	r, _ := spanned(numbers[first], numbers[last])
	return r, most
}

func exactDeep(list []interval, v ratio) int64 {
	all, is := exactClaims(list)
	q, right := exact(v)
	if !is || !right {
		return -1
	}
	return depthOf(all, q)
}

// exactNumbers tells what chapter 11 takes: 1 to 12 fractions.
func exactNumbers(list []ratio) ([]*big.Rat, bool) {
	var all []*big.Rat
	for _, r := range list {
		q, is := exact(r)
		if !is {
			return nil, false
		}
		all = append(all, q)
	}
	return all, len(all) > 0 && len(all) < 13
}

// ranked is the number that has at most place others below it, and with those that are like it more than place:
// nothing is brought into order for it.
func ranked(all []*big.Rat, place int) *big.Rat {
	return all[slices.IndexFunc(all, func(q *big.Rat) bool {
		less, same := 0, 0
		for _, other := range all {
			switch other.Cmp(q) {
			case -1:
				less++
			case 0:
				same++
			}
		}
		return less <= place && place < less+same
	})]
}

func (k *reckoning) middle(all []*big.Rat) *big.Rat {
	if n := len(all); n%2 == 0 {
		return k.quotient(k.sum(ranked(all, n/2-1), ranked(all, n/2)), big.NewRat(2, 1))
	}
	return ranked(all, len(all)/2)
}

// far are the distances from the middle, and the middle of these.
func (k *reckoning) far(all []*big.Rat) ([]*big.Rat, *big.Rat) {
	middle := k.middle(all)
	var list []*big.Rat
	for _, q := range all {
		if q.Cmp(middle) < 0 {
			list = append(list, k.difference(middle, q))
		} else {
			list = append(list, k.difference(q, middle))
		}
	}
	return list, k.middle(list)
}

func exactMiddle(list []ratio) (ratio, bool) {
	all, is := exactNumbers(list)
	if !is {
		return zero, false
	}
	var k reckoning
	r, _ := fitted(k.middle(all))
	if k.tooGreat {
		return zero, false
	}
	return r, true
}

func exactSpreadOf(list []ratio) (ratio, bool) {
	all, is := exactNumbers(list)
	if !is {
		return zero, false
	}
	var k reckoning
	_, spread := k.far(all)
	r, _ := fitted(spread)
	if k.tooGreat {
		return zero, false
	}
	return r, true
}

func exactOutside(list []ratio, times int64) []int64 {
	all, is := exactNumbers(list)
	if !is || times < 0 || times > 100 {
		return nil
	}
	var k reckoning
	far, spread := k.far(all)
	allowed := k.product(big.NewRat(times, 1), spread)
	if k.tooGreat {
		return nil
	}
	var outside []int64
	for i, d := range far {
		if d.Cmp(allowed) > 0 {
			outside = append(outside, int64(i))
		}
	}
	return outside
}

func checkDeep(t *testing.T, list []interval, v ratio) int64 {
	t.Helper()
	want := exactDeep(list, v)
	if got := impl.Deep(list, v); got != want {
		t.Fatalf("Deep(%v, %v): %d, not %d", list, v, got, want)
	}
	return want
}

func checkAgreed(t *testing.T, list []interval) int64 {
	t.Helper()
	want, wantDeep := exactAgreed(list)
	if got, deep := impl.Agreed(list); got != want || deep != wantDeep {
		t.Fatalf("Agreed(%v): %v %d, not %v %d", list, got, deep, want, wantDeep)
	}
	return wantDeep
}

// checkClaims holds what chapter 11 tells of claims against the same by other means: at each end, too, and beside it.
func checkClaims(t *testing.T, list []interval) {
	t.Helper()
	checkAgreed(t, list)
	for _, r := range list {
		for _, v := range []ratio{r.Low, r.High} {
			checkDeep(t, list, v)
			if isExact(v) {
				checkDeep(t, list, neighbour(v, -1, maxPart))
				checkDeep(t, list, neighbour(v, 1, maxPart))
			}
		}
	}
}

func checkMiddle(t *testing.T, list []ratio) bool {
	t.Helper()
	want, wantIs := exactMiddle(list)
	if got, is := impl.Middle(list); is != wantIs || got != want {
		t.Fatalf("Middle(%v): %v %v, not %v %v", list, got, is, want, wantIs)
	}
	return wantIs
}

func checkSpreadOf(t *testing.T, list []ratio) bool {
	t.Helper()
	want, wantIs := exactSpreadOf(list)
	if got, is := impl.Spread(list); is != wantIs || got != want {
		t.Fatalf("Spread(%v): %v %v, not %v %v", list, got, is, want, wantIs)
	}
	return wantIs
}

func checkOutside(t *testing.T, list []ratio, times int64) int {
	t.Helper()
	want := exactOutside(list, times)
	if got := impl.Outside(list, times); !slices.Equal(got, want) {
		t.Fatalf("Outside(%v, %d): %v, not %v", list, times, got, want)
	}
	return len(want)
}

func someTimes() []int64 { return []int64{-1, 0, 1, 2, 3, 7, 50, 99, 100, 101} }

// checkNumbers holds what chapter 11 tells of fractions against the same by other means.
func checkNumbers(t *testing.T, list []ratio) {
	t.Helper()
	checkMiddle(t, list)
	checkSpreadOf(t, list)
	for _, times := range someTimes() {
		checkOutside(t, list, times)
	}
}

// chanceClaims have ends of each kind; those of small whole numbers are alike, touch and lie in one another often.
func chanceClaims(chance *rand.Rand, n int) []interval {
	kind, wide := chance.Intn(5), chance.Int63n(12)+1
	list := make([]interval, n)
	for i := range list {
		switch kind {
		case 0: // nearly all have 0
			list[i] = wholes(-chance.Int63n(wide+1), chance.Int63n(wide+1))
		case 1, 2:
			low := chance.Int63n(2*wide) - wide
			list[i] = wholes(low, low+chance.Int63n(wide))
		case 3:
			list[i] = chanceSpan(chance)
		default:
			low, high := chanceEnd(chance, 2), chanceEnd(chance, 2)
			if impl.Less(high, low) {
				low, high = high, low
			}
			list[i] = span(low, high)
		}
		if i > 0 && chance.Intn(6) == 0 {
			list[i] = touching(chance, list[chance.Intn(i)], list[i])
		}
	}
	return list
}

// touching is the Range r, or that between an end of it and an end of the other one.
func touching(chance *rand.Rand, r interval, other interval) interval {
	ends, others := []ratio{r.Low, r.High}, []ratio{r.Low, r.High, other.Low, other.High}
	between := span(ends[chance.Intn(2)], others[chance.Intn(4)])
	if !isSpan(between) {
		between = span(between.High, between.Low)
	}
	return between
}

// chanceAgreements are by chance (of a fixed seed): claims of each size, and as many numbers.
func chanceAgreements(seed int64, times int, tell func(*rand.Rand, []interval, []ratio)) {
	chance := rand.New(rand.NewSource(seed))
	for range times {
		for n := 1; n <= 12; n++ {
			numbers := turnedSome(chance, table(chanceRow(chance, chance.Intn(6), n)))[0]
			if chance.Intn(3) == 0 {
				numbers[chance.Intn(n)] = chanceRatio(chance, chance.Intn(6))
			}
			tell(chance, chanceClaims(chance, n), numbers)
		}
	}
}
