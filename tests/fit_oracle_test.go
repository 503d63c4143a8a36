package tests

import (
	"math/big"
	"math/rand"
	"slices"
	"testing"

	"loop.example/g00069/impl"
)

type spot = impl.Spot

type exactSpot struct{ x, y *big.Rat }

// spots are told by pairs of whole numbers: X, Y.
func spots(numbers ...int64) []spot {
	var list []spot
	for pair := range slices.Chunk(whole(numbers...), 2) {
		list = append(list, spot{X: pair[0], Y: pair[1]})
	}
	return list
}

// exactSpots tells what the document calls marks, by other means than the program's.
func exactSpots(list []spot) ([]exactSpot, bool) {
	var marks []exactSpot
	for _, s := range list {
		x, xIs := exact(s.X)
		y, yIs := exact(s.Y)
		if !xIs || !yIs {
			return nil, false
		}
		marks = append(marks, exactSpot{x, y})
	}
	return marks, len(marks) > 1 && len(marks) < 13
}

func exactCurve(curve []ratio) ([]*big.Rat, bool) {
	rows, is := exactRows(table(curve))
	if !is || len(rows[0]) > 4 {
		return nil, false
	}
	return rows[0], true
}

func powerOf(x *big.Rat, p int) *big.Rat {
	by := big.NewInt(int64(p))
	return new(big.Rat).SetFrac(new(big.Int).Exp(x.Num(), by, nil), new(big.Int).Exp(x.Denom(), by, nil))
}

// heightOf sums each number of the curve times its power of x.
func heightOf(curve []*big.Rat, x *big.Rat) *big.Rat {
	sum := new(big.Rat)
	for p, c := range curve {
		sum.Add(sum, new(big.Rat).Mul(c, powerOf(x, p)))
	}
	return sum
}

// missOf is the sum of the squares of y and of the curve, less what they have in common twice.
func missOf(curve []*big.Rat, marks []exactSpot) *big.Rat {
	sum := new(big.Rat)
	for _, m := range marks {
		at := heightOf(curve, m.x)
		common := new(big.Rat).Mul(at, m.y)
		sum.Add(sum, squareOf(m.y)).Add(sum, squareOf(at)).Sub(sum, common).Sub(sum, common)
	}
	return sum
}

// normalOf tells how steeply missOf falls, by curves of which one number is a bit less or more: a quarter of their
// difference is exact, as missOf has no power above the second one.
func normalOf(curve []*big.Rat, marks []exactSpot, p int) *big.Rat {
	less, more := slices.Clone(curve), slices.Clone(curve)
	less[p] = new(big.Rat).Sub(curve[p], big.NewRat(1, 1))
	more[p] = new(big.Rat).Add(curve[p], big.NewRat(1, 1))
	fall := new(big.Rat).Sub(missOf(less, marks), missOf(more, marks))
	return fall.Quo(fall, big.NewRat(4, 1))
}

// height goes the way that the document tells, from the highest power on.
func (k *reckoning) height(curve []*big.Rat, x *big.Rat) *big.Rat {
	at := curve[len(curve)-1]
	for p := len(curve) - 2; p >= 0; p-- {
		at = k.sum(k.product(at, x), curve[p])
	}
	return at
}

func (k *reckoning) power(x *big.Rat, p int) *big.Rat {
	power := big.NewRat(1, 1)
	for range p {
		power = k.product(power, x)
	}
	return power
}

// sumByPower sums x to p times what is told of each mark, from the first on.
func (k *reckoning) sumByPower(marks []exactSpot, p int, tell func(exactSpot) *big.Rat) *big.Rat {
	sum := new(big.Rat)
	for _, m := range marks {
		sum = k.sum(sum, k.product(k.power(m.x, p), tell(m)))
	}
	return sum
}

func exactCurveAt(curve []ratio, x ratio) (ratio, bool) {
	list, is := exactCurve(curve)
	at, atIs := exact(x)
	if !is || !atIs {
		return zero, false
	}
	var k reckoning
	k.height(list, at)
	y, _ := fitted(heightOf(list, at))
	if k.tooGreat {
		return zero, false
	}
	return y, true
}

// exactMiss goes by missOf; the way that the document tells decides only whether it is too great.
func exactMiss(curve []ratio, list []spot) (ratio, bool) {
	exactly, is := exactCurve(curve)
	marks, marksAre := exactSpots(list)
	if !is || !marksAre {
		return zero, false
	}
	var k reckoning
	sum := new(big.Rat)
	for _, m := range marks {
		off := k.difference(m.y, k.height(exactly, m.x))
		sum = k.sum(sum, k.product(off, off))
	}
	if k.tooGreat {
		return zero, false
	}
	return fitted(missOf(exactly, marks))
}

// exactNormal goes by normalOf; the way that the document tells decides only whether it is too great.
func exactNormal(curve []ratio, list []spot) ([]ratio, bool) {
	exactly, is := exactCurve(curve)
	marks, marksAre := exactSpots(list)
	if !is || !marksAre {
		return nil, false
	}
	var k reckoning
	var sums []*big.Rat
	for p := range exactly {
		k.sumByPower(marks, p, func(m exactSpot) *big.Rat { return k.difference(m.y, k.height(exactly, m.x)) })
		sums = append(sums, normalOf(exactly, marks, p))
	}
	rows, _ := fittedRows([][]*big.Rat{sums})
	if k.tooGreat {
		return nil, false
	}
	return rows[0], true
}

// through is the curve through marks of which no two X are alike, by Lagrange, and the square of the product of all
// differences of their X: 0 where two are alike.
func through(marks []exactSpot) ([]*big.Rat, *big.Rat) {
	curve, weight := make([]*big.Rat, len(marks)), big.NewRat(1, 1)
	for p := range curve {
		curve[p] = new(big.Rat)
	}
	for i, m := range marks {
		part := []*big.Rat{m.y}
		for j, other := range marks {
			if i == j {
				continue
			}
			gap := new(big.Rat).Sub(m.x, other.x)
			if weight.Mul(weight, new(big.Rat).Abs(gap)); weight.Sign() == 0 {
				return nil, weight
			}
			part = timesRoot(part, other.x, gap)
		}
		for p := range curve {
			curve[p].Add(curve[p], part[p])
		}
	}
	return curve, weight
}

// timesRoot is the curve times (x less root), divided by by.
func timesRoot(curve []*big.Rat, root *big.Rat, by *big.Rat) []*big.Rat {
	list := make([]*big.Rat, len(curve)+1)
	for p := range list {
		list[p] = new(big.Rat)
		if p > 0 {
			list[p].Add(list[p], curve[p-1])
		}
		if p < len(curve) {
			list[p].Sub(list[p], new(big.Rat).Mul(curve[p], root))
		}
		list[p].Quo(list[p], by)
	}
	return list
}

// choices are all lists of n of the marks.
func choices(marks []exactSpot, n int) [][]exactSpot {
	if n == 0 {
		return [][]exactSpot{nil}
	}
	var all [][]exactSpot
	for i, m := range marks {
		for _, rest := range choices(marks[i+1:], n-1) {
			all = append(all, append([]exactSpot{m}, rest...))
		}
	}
	return all
}

// nearestCurve is the mean of the curves through each n of the marks, each with its weight (Jacobi): no rows are
// solved for it. There is none where no n marks are apart.
func nearestCurve(marks []exactSpot, n int) ([]*big.Rat, bool) {
	mean, all := make([]*big.Rat, n), new(big.Rat)
	for p := range mean {
		mean[p] = new(big.Rat)
	}
	for _, some := range choices(marks, n) {
		curve, weight := through(some)
		for p, c := range curve {
			mean[p].Add(mean[p], c.Mul(c, weight))
		}
		all.Add(all, weight)
	}
	if all.Sign() == 0 {
		return nil, false
	}
	for _, c := range mean {
		c.Quo(c, all)
	}
	return mean, true
}

// rowsOfPowers are the sums of x to the powers p + q, and behind them those of x to p times y.
func (k *reckoning) rowsOfPowers(marks []exactSpot, n int) [][]*big.Rat {
	var rows [][]*big.Rat
	for p := range n {
		var row []*big.Rat
		for q := range n {
			row = append(row, k.sumByPower(marks, p+q, func(exactSpot) *big.Rat { return big.NewRat(1, 1) }))
		}
		rows = append(rows, append(row, k.sumByPower(marks, p, func(m exactSpot) *big.Rat { return m.y })))
	}
	return rows
}

// exactFitted goes by nearestCurve; the sums and Echelon decide only whether it is too great.
func exactFitted(list []spot, n int64) ([]ratio, bool) {
	marks, is := exactSpots(list)
	if !is || n < 1 || n > 4 {
		return nil, false
	}
	var k reckoning
	rows, _ := fittedRows(k.rowsOfPowers(marks, int(n)))
	if k.tooGreat {
		return nil, false
	}
	end, _ := exactEchelon(rows)
	curve, is := nearestCurve(marks, int(n))
	if !is || end.tooGreat {
		return nil, false
	}
	fits, _ := fittedRows([][]*big.Rat{curve})
	return fits[0], true
}

func checkSpots(t *testing.T, list []spot) bool {
	t.Helper()
	_, is := exactSpots(list)
	if got := impl.SpotsOk(list); got != is {
		t.Fatalf("SpotsOk(%v): %v", list, got)
	}
	return is
}

func checkCurveAt(t *testing.T, curve []ratio, x ratio) bool {
	t.Helper()
	want, wantIs := exactCurveAt(curve, x)
	if got, is := impl.CurveAt(curve, x); is != wantIs || got != want {
		t.Fatalf("CurveAt(%v, %v): %v %v, not %v %v", curve, x, got, is, want, wantIs)
	}
	return wantIs
}

func checkMiss(t *testing.T, curve []ratio, list []spot) bool {
	t.Helper()
	want, wantIs := exactMiss(curve, list)
	if got, is := impl.Miss(curve, list); is != wantIs || got != want {
		t.Fatalf("Miss(%v, %v): %v %v, not %v %v", curve, list, got, is, want, wantIs)
	}
	return wantIs
}

func checkNormal(t *testing.T, curve []ratio, list []spot) bool {
	t.Helper()
	want, wantIs := exactNormal(curve, list)
	if got, is := impl.Normal(curve, list); is != wantIs || !slices.Equal(got, want) {
		t.Fatalf("Normal(%v, %v): %v %v, not %v %v", curve, list, got, is, want, wantIs)
	}
	return wantIs
}

func checkFitted(t *testing.T, list []spot, n int64) bool {
	t.Helper()
	want, wantIs := exactFitted(list, n)
	if got, is := impl.Fitted(list, n); is != wantIs || !slices.Equal(got, want) {
		t.Fatalf("Fitted(%v, %d): %v %v, not %v %v", list, n, got, is, want, wantIs)
	}
	return wantIs
}

// checkCurve holds what chapter 10 tells of a curve and marks against the same by other means.
func checkCurve(t *testing.T, curve []ratio, list []spot) {
	t.Helper()
	for _, s := range list {
		checkCurveAt(t, curve, s.X)
	}
	checkMiss(t, curve, list)
	checkNormal(t, curve, list)
}

// checkFits holds what chapter 10 tells of marks alone, and of each curve that it lays through them, likewise.
func checkFits(t *testing.T, list []spot) {
	t.Helper()
	checkSpots(t, list)
	for n := int64(0); n <= 5; n++ {
		checkFitted(t, list, n)
		if curve, is := impl.Fitted(list, n); is {
			checkCurve(t, curve, list)
		}
	}
}

// chanceSpots are of numbers of each kind; some have an X more than once, some of them lie on a curve.
func chanceSpots(chance *rand.Rand, n int) []spot {
	kinds := []int{0, 1, 1, 1, 2, 2, 3, 4, 5}
	rows := turnedSome(chance, table(chanceRow(chance, kinds[chance.Intn(9)], n), chanceRow(chance, kinds[chance.Intn(9)], n)))
	curve, lie := chanceRow(chance, chance.Intn(3), chance.Intn(4)+1), chance.Intn(3)
	list := make([]spot, n)
	for i := range list {
		list[i] = spot{X: rows[0][i], Y: rows[1][i]}
		if i > 0 && chance.Intn(6) == 0 {
			list[i].X = list[chance.Intn(i)].X
		}
		if y, is := exactCurveAt(curve, list[i].X); is && (lie == 0 || lie == 1 && i%2 == 0) {
			list[i].Y = y
		}
	}
	return list
}

// chanceFits are by chance (of a fixed seed): marks of each size, and a curve of 1 to 4 numbers of each kind.
func chanceFits(seed int64, times int, tell func(*rand.Rand, []ratio, []spot)) {
	chance := rand.New(rand.NewSource(seed))
	for range times {
		for n := 2; n <= 12; n++ {
			curve := turnedSome(chance, table(chanceRow(chance, chance.Intn(6), chance.Intn(4)+1)))[0]
			tell(chance, curve, chanceSpots(chance, n))
		}
	}
}
