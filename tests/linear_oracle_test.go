package tests

import (
	"math/big"
	"math/rand"
	"slices"
)

// whole is a row of whole numbers.
func whole(numbers ...int64) []ratio {
	row := make([]ratio, len(numbers))
	for i, n := range numbers {
		row[i] = frac(n, 1)
	}
	return row
}

func table(rows ...[]ratio) [][]ratio { return rows }

// reckoning goes on without limits, and keeps in mind whether a fraction on the way was too great.
type reckoning struct{ tooGreat bool }

func (k *reckoning) kept(q *big.Rat) *big.Rat {
	if _, is := fitted(q); !is {
		k.tooGreat = true
	}
	return q
}

func (k *reckoning) sum(a, b *big.Rat) *big.Rat        { return k.kept(new(big.Rat).Add(a, b)) }
func (k *reckoning) difference(a, b *big.Rat) *big.Rat { return k.kept(new(big.Rat).Sub(a, b)) }
func (k *reckoning) product(a, b *big.Rat) *big.Rat    { return k.kept(new(big.Rat).Mul(a, b)) }
func (k *reckoning) quotient(a, b *big.Rat) *big.Rat   { return k.kept(new(big.Rat).Quo(a, b)) }

// exactRows tells what the document calls a table, by other means than the program's.
func exactRows(rows [][]ratio) ([][]*big.Rat, bool) {
	var list [][]*big.Rat
	for _, row := range rows {
		var exactRow []*big.Rat
		for _, r := range row {
			q, is := exact(r)
			if !is {
				return nil, false
			}
			exactRow = append(exactRow, q)
		}
		if n := len(row); n == 0 || n > 6 || n != len(rows[0]) {
			return nil, false
		}
		list = append(list, exactRow)
	}
	return list, len(list) > 0 && len(list) < 7
}

// fittedRows are the Ratios of rows, where none is too great.
func fittedRows(rows [][]*big.Rat) ([][]ratio, bool) {
	var list [][]ratio
	for _, row := range rows {
		var fittedRow []ratio
		for _, q := range row {
			r, is := fitted(q)
			if !is {
				return nil, false
			}
			fittedRow = append(fittedRow, r)
		}
		list = append(list, fittedRow)
	}
	return list, true
}

func exactTimes(a [][]ratio, b [][]ratio) ([][]ratio, bool) {
	left, leftIs := exactRows(a)
	right, rightIs := exactRows(b)
	if !leftIs || !rightIs || len(left[0]) != len(right) {
		return nil, false
	}
	var k reckoning
	list := make([][]*big.Rat, len(left))
	for i, row := range left {
		for c := range right[0] {
			sum := new(big.Rat)
			for j, q := range row {
				sum = k.sum(sum, k.product(q, right[j][c]))
			}
			list[i] = append(list[i], sum)
		}
	}
	fits, _ := fittedRows(list)
	return fits, !k.tooGreat
}

// exactEnd is where the steps of Echelon come to without limits; by tells for
// each column at which place the row is that was chosen for it, or -1.
type exactEnd struct {
	rows     [][]*big.Rat
	by       []int
	tooGreat bool
}

func exactEchelon(rows [][]ratio) (exactEnd, bool) {
	list, is := exactRows(rows)
	if !is {
		return exactEnd{}, false
	}
	var k reckoning
	var by []int
	chosen := make([]bool, len(list))
	for c := range list[0] {
		first, found := slices.Index(chosen, false), -1
		for i := range list {
			if found < 0 && !chosen[i] && list[i][c].Sign() != 0 {
				found = i
			}
		}
		if found < 0 {
			by = append(by, -1)
			continue
		}
		by = append(by, first)
		chosen[first] = true
		list[found], list[first] = list[first], list[found]
		k.divideAndTake(list, first, c)
	}
	return exactEnd{rows: list, by: by, tooGreat: k.tooGreat}, true
}

func (k *reckoning) divideAndTake(list [][]*big.Rat, chosen int, c int) {
	by := list[chosen][c]
	for j, q := range list[chosen] {
		list[chosen][j] = k.quotient(q, by)
	}
	for i := range list {
		if i == chosen {
			continue
		}
		times := list[i][c]
		for j, q := range list[chosen] {
			list[i][j] = k.difference(list[i][j], k.product(times, q))
		}
	}
}

func (e exactEnd) rank() int64 {
	rank := int64(0)
	for _, row := range e.rows {
		if slices.ContainsFunc(row, func(q *big.Rat) bool { return q.Sign() != 0 }) {
			rank++
		}
	}
	return rank
}

func (e exactEnd) kernel() [][]ratio {
	var list [][]ratio
	for c, place := range e.by {
		if place >= 0 {
			continue
		}
		var row []ratio
		for other, at := range e.by {
			switch {
			case other == c:
				row = append(row, frac(1, 1))
			case at < 0:
				row = append(row, frac(0, 1))
			default:
				r, _ := fitted(new(big.Rat).Neg(e.rows[at][c]))
				row = append(row, r)
			}
		}
		list = append(list, row)
	}
	return list
}

// determinant goes by the first row and what is left without it and each column.
func determinant(rows [][]*big.Rat) *big.Rat {
	if len(rows) == 0 {
		return big.NewRat(1, 1)
	}
	sum := new(big.Rat)
	for c, q := range rows[0] {
		var rest [][]*big.Rat
		for _, row := range rows[1:] {
			rest = append(rest, slices.Delete(slices.Clone(row), c, c+1))
		}
		part := new(big.Rat).Mul(q, determinant(rest))
		if c%2 == 1 {
			part.Neg(part)
		}
		sum.Add(sum, part)
	}
	return sum
}

// exactSolved goes by determinants (Cramer); Echelon tells only whether a fraction on the way is too great.
func exactSolved(rows [][]ratio, right []ratio) ([]ratio, bool) {
	list, is := exactRows(rows)
	if !is || len(list) > 5 || len(list[0]) != len(list) || len(right) != len(list) {
		return nil, false
	}
	behind := copied(rows)
	for i, r := range right {
		behind[i] = append(behind[i], r)
	}
	end, is := exactEchelon(behind)
	all := determinant(list)
	if !is || end.tooGreat || all.Sign() == 0 {
		return nil, false
	}
	var x []ratio
	for c := range list {
		other, _ := exactRows(rows)
		for i, r := range right {
			other[i][c], _ = exact(r)
		}
		r, _ := fitted(new(big.Rat).Quo(determinant(other), all))
		x = append(x, r)
	}
	return x, true
}

// chanceTables are by chance (of a fixed seed): of each size, of numbers of each kind, and some with rows that are
// sums of the others.
func chanceTables(seed int64, times int, tell func([][]ratio)) {
	chance := rand.New(rand.NewSource(seed))
	for range times {
		for n := 1; n <= 6; n++ {
			for m := 1; m <= 6; m++ {
				tell(chanceTable(chance, n, m))
			}
		}
	}
}

func chanceTable(chance *rand.Rand, n int, m int) [][]ratio {
	kind := chance.Intn(6)
	rows := make([][]ratio, n)
	for i := range rows {
		rows[i] = chanceRow(chance, kind, m)
	}
	for i := range rows {
		if kind < 3 && chance.Intn(4) == 0 {
			rows[i] = sumOfRows(rows[chance.Intn(n)], rows[chance.Intn(n)])
		}
	}
	return rows
}

func chanceRow(chance *rand.Rand, kind int, m int) []ratio {
	row := make([]ratio, m)
	for i := range row {
		row[i] = chanceRatio(chance, kind)
	}
	return row
}

func chanceRatio(chance *rand.Rand, kind int) ratio {
	steep := []ratio{frac(0, 1), frac(1, 1), frac(0, 1), frac(-1, 1), frac(40000, 1), frac(1, 40000), frac(-40000, 1), frac(1, 2),
		frac(maxPart, 1), frac(-maxPart, 1), frac(1, maxPart), frac(0, 1), frac(maxPart, maxPart-1)}
	switch kind {
	case 0:
		return frac(chance.Int63n(2), 1)
	case 1:
		return frac(chance.Int63n(5)-2, 1)
	case 2:
		r, _ := fitted(big.NewRat(chance.Int63n(19)-9, chance.Int63n(6)+1))
		return r
	case 3:
		return steep[chance.Intn(len(steep))]
	case 4:
		return steep[chance.Intn(6)]
	default:
		r, is := fitted(big.NewRat(chance.Int63n(maxPart)>>chance.Intn(30), chance.Int63n(maxPart)>>chance.Intn(30)+1))
		if !is {
			return frac(0, 1)
		}
		return r
	}
}

func sumOfRows(a []ratio, b []ratio) []ratio {
	row := make([]ratio, len(a))
	for i := range row {
		row[i], _ = fitted(new(big.Rat).Add(big.NewRat(a[i].N, a[i].D), big.NewRat(b[i].N, b[i].D)))
	}
	return row
}
