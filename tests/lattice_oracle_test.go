package tests

import (
	"cmp"
	"math/big"
	"math/rand"
	"slices"
	"testing"

	"loop.example/g00069/impl"
)

type point = impl.Point

const (
	maxAt     = 1000 // written out, so that another MaxAt or MaxWeight is noticed
	maxWeight = 1000000
)

// points are told by pairs: At, Weight.
func points(numbers ...int64) []point {
	var list []point
	for pair := range slices.Chunk(numbers, 2) {
		list = append(list, point{At: pair[0], Weight: pair[1]})
	}
	return list
}

// evenly are n points from at on, as far from each other as step, all of one weight.
func evenly(n int, at int64, step int64, weight int64) []point {
	list := []point{}
	for i := range int64(n) {
		list = append(list, point{At: at + i*step, Weight: weight})
	}
	return list
}

// exactSpread tells what the document calls a spread: each point against all ahead of it, the weights of any length.
func exactSpread(list []point) bool {
	if len(list) == 0 || len(list) > 40 {
		return false
	}
	all := new(big.Int)
	for i, p := range list {
		if p.At < -maxAt || p.At > maxAt || p.Weight < 1 || p.Weight > maxWeight {
			return false
		}
		if slices.ContainsFunc(list[:i], func(q point) bool { return q.At >= p.At }) {
			return false
		}
		all.Add(all, big.NewInt(p.Weight))
	}
	return all.Cmp(big.NewInt(maxWeight)) <= 0
}

const digitBytes = 6 // a product of two spreads' weights, and any sum of such, fits into a digit

// asNumber has each weight as the digit at its At less the first one.
func asNumber(list []point) *big.Int {
	bytes := make([]byte, digitBytes*(2*maxAt+1))
	for _, p := range list {
		end := len(bytes) - digitBytes*int(p.At-list[0].At)
		big.NewInt(p.Weight).FillBytes(bytes[end-digitBytes : end])
	}
	return new(big.Int).SetBytes(bytes)
}

// exactJoined reads the points from the digits of one product of two great numbers.
func exactJoined(a []point, b []point) ([]point, bool) {
	if !exactSpread(a) || !exactSpread(b) {
		return nil, false
	}
	bytes := make([]byte, digitBytes*(4*maxAt+1))
	new(big.Int).Mul(asNumber(a), asNumber(b)).FillBytes(bytes)
	var list []point
	at := a[0].At + b[0].At
	for end := len(bytes); end > 0; end -= digitBytes {
		if weight := new(big.Int).SetBytes(bytes[end-digitBytes : end]).Int64(); weight > 0 {
			list = append(list, point{At: at, Weight: weight})
		}
		at++
	}
	return list, exactSpread(list)
}

// momentOf is the sum of what is told of each point, times its weight, by all weights.
func momentOf(list []point, tell func(*big.Rat) *big.Rat) *big.Rat {
	sum, all := new(big.Rat), new(big.Rat)
	for _, p := range list {
		weight := big.NewRat(p.Weight, 1)
		sum.Add(sum, new(big.Rat).Mul(weight, tell(big.NewRat(p.At, 1))))
		all.Add(all, weight)
	}
	return sum.Quo(sum, all)
}

func squareOf(q *big.Rat) *big.Rat { return new(big.Rat).Mul(q, q) }

func exactMean(list []point) (ratio, bool) {
	if !exactSpread(list) {
		return zero, false
	}
	return fitted(momentOf(list, func(at *big.Rat) *big.Rat { return at }))
}

// exactVary goes by the squares of At less Mean; the way that the document tells decides only whether it is too great.
func exactVary(list []point) (ratio, bool) {
	if !exactSpread(list) {
		return zero, false
	}
	var k reckoning
	mean := momentOf(list, func(at *big.Rat) *big.Rat { return at })
	k.difference(k.kept(momentOf(list, squareOf)), k.product(mean, mean))
	v, is := fitted(momentOf(list, func(at *big.Rat) *big.Rat { return squareOf(new(big.Rat).Sub(at, mean)) }))
	if k.tooGreat || !is {
		return zero, false
	}
	return v, true
}

// exactInside takes from all weights those below and those above.
func exactInside(list []point, low int64, high int64) int64 {
	if !exactSpread(list) {
		return -1
	}
	sum := int64(0)
	for _, p := range list {
		sum += p.Weight
	}
	for _, p := range list {
		if p.At < low || p.At > high {
			sum -= p.Weight
		}
	}
	return sum
}

type stretch struct{ low, high, weight int64 }

// stretches go from each point to itself and to each one behind it: the shortest first, of alike ones the first.
func stretches(list []point) []stretch {
	var all []stretch
	for i, p := range list {
		weight := int64(0)
		for _, q := range list[i:] {
			weight += q.Weight
			all = append(all, stretch{p.At, q.At, weight})
		}
	}
	slices.SortFunc(all, func(x, y stretch) int {
		return cmp.Or(cmp.Compare(x.high-x.low, y.high-y.low), cmp.Compare(x.low, y.low))
	})
	return all
}

func exactCoverOf(list []point, part ratio) (int64, int64, bool) {
	q, is := exact(part)
	if !is || !exactSpread(list) || q.Sign() < 0 || q.Cmp(big.NewRat(1, 1)) > 0 {
		return 0, 0, false
	}
	need := new(big.Rat).Mul(q, big.NewRat(exactInside(list, -maxAt, maxAt), 1))
	for _, s := range stretches(list) {
		if big.NewRat(s.weight, 1).Cmp(need) >= 0 {
			return s.low, s.high, true
		}
	}
	panic("all of it is enough")
}

func checkInside(t *testing.T, list []point, low int64, high int64) {
	t.Helper()
	if got, want := impl.Inside(list, low, high), exactInside(list, low, high); got != want {
		t.Fatalf("Inside(%v, %d, %d): %d, not %d", list, low, high, got, want)
	}
}

func checkCoverOf(t *testing.T, list []point, part ratio) bool {
	t.Helper()
	wantLow, wantHigh, wantIs := exactCoverOf(list, part)
	if low, high, is := impl.Cover(list, part); is != wantIs || low != wantLow || high != wantHigh {
		t.Fatalf("Cover(%v, %v): %d %d %v, not %d %d %v", list, part, low, high, is, wantLow, wantHigh, wantIs)
	}
	return wantIs
}

func checkJoined(t *testing.T, a []point, b []point) bool {
	t.Helper()
	want, wantIs := exactJoined(a, b)
	if !wantIs {
		want = nil
	}
	if got, is := impl.Joined(a, b); is != wantIs || !slices.Equal(got, want) {
		t.Fatalf("Joined(%v, %v): %v %v, not %v %v", a, b, got, is, want, wantIs)
	}
	return wantIs
}

// checkMoments tells whether there is a Mean, and whether there is a Vary.
func checkMoments(t *testing.T, list []point) (bool, bool) {
	t.Helper()
	mean, meanIs := exactMean(list)
	if got, is := impl.Mean(list); is != meanIs || got != mean {
		t.Fatalf("Mean(%v): %v %v, not %v %v", list, got, is, mean, meanIs)
	}
	vary, varyIs := exactVary(list)
	if got, is := impl.Vary(list); is != varyIs || got != vary {
		t.Fatalf("Vary(%v): %v %v, not %v %v", list, got, is, vary, varyIs)
	}
	return meanIs, varyIs
}

func someParts() []ratio {
	return []ratio{frac(0, 1), frac(1, 1), frac(1, 2), frac(1, 3), frac(2, 3), frac(9, 10), frac(1, maxPart), frac(maxPart-1, maxPart), frac(499999999, maxPart), frac(500000001, maxPart),
		frac(-1, 2), frac(-1, maxPart), frac(3, 2), frac(maxPart, maxPart-1), zero, frac(2, 4), frac(1, -2)}
}

// checkLattice holds what chapter 9 tells of one list against the same by other means.
func checkLattice(t *testing.T, list []point) bool {
	t.Helper()
	is := exactSpread(list)
	if got := impl.SpreadOk(list); got != is {
		t.Fatalf("SpreadOk(%v): %v", list, got)
	}
	if got, want := impl.Weight(list), exactInside(list, -maxAt, maxAt); got != want {
		t.Fatalf("Weight(%v): %d, not %d", list, got, want)
	}
	checkMoments(t, list)
	for _, p := range list {
		checkInside(t, list, p.At, p.At)
		checkInside(t, list, p.At, maxAt)
		checkInside(t, list, -maxAt, p.At)
		checkInside(t, list, p.At, list[0].At)
	}
	for _, part := range someParts() {
		checkCoverOf(t, list, part)
	}
	return is
}

// chanceSpread is of at most most points, on a lattice of this step or (step 0) anywhere, of weights of each kind; some
// have as much in all as may be.
func chanceSpread(chance *rand.Rand, most int, step int64, wide int64) []point {
	n := chance.Intn(most) + 1
	heaviest := []int64{1, 2, 5, 100, 1000, maxWeight / int64(n)}[chance.Intn(6)]
	places := chance.Perm(int(2*wide + 1))[:n]
	if step > 0 {
		// Some places of the lattice are left out.
		places = chance.Perm(n + chance.Intn(3))[:n]
	}
	slices.Sort(places)
	from := -wide
	if step > 0 {
		from = chance.Int63n(wide+1) - wide/2
	}
	list := []point{}
	for _, place := range places {
		list = append(list, point{At: from + int64(place)*max(step, 1), Weight: chance.Int63n(heaviest) + 1})
	}
	if chance.Intn(8) == 0 {
		list[chance.Intn(n)].Weight += max(0, maxWeight-exactInside(list, -maxAt, maxAt))
	}
	return list
}

// chancePairs are by chance (of a fixed seed): pairs of spreads on one lattice, so that sums fall together; some of
// them can't be joined.
func chancePairs(seed int64, times int, tell func([]point, []point)) {
	chance := rand.New(rand.NewSource(seed))
	for range times {
		most, step := chance.Intn(21)+1, chance.Int63n(12)+1
		a, b := chanceSpread(chance, most, step, 300), chanceSpread(chance, most, step, 300)
		tell(a, b)
	}
}

// chanceLists are by chance (of a fixed seed): spreads of one point up to forty.
func chanceLists(seed int64, times int, tell func([]point)) {
	chance := rand.New(rand.NewSource(seed))
	for range times {
		most := []int{1, 3, 8, 40}[chance.Intn(4)]
		tell(chanceSpread(chance, most, 0, []int64{20, 60, maxAt}[chance.Intn(3)]))
		tell(chanceSpread(chance, most, chance.Int63n(20)+1, 100))
	}
}
