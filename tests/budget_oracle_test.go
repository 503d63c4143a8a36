package tests

import (
	"math/big"
	"math/rand"
	"slices"
	"testing"

	"loop.example/g00069/impl"
)

// exactCover tells what the document calls a cover, by other means than the program's.
func exactCover(rows [][]ratio) ([][]*big.Rat, bool) {
	list, is := exactRows(rows)
	if !is || len(list) != len(list[0]) {
		return nil, false
	}
	for i := range list {
		for k := range i {
			if list[i][k].Cmp(list[k][i]) != 0 {
				return nil, false
			}
		}
	}
	return list, true
}

// exactBudget are rows of shares and their cover, where they are both and fit.
func exactBudget(shares [][]ratio, rows [][]ratio) ([][]*big.Rat, [][]*big.Rat, bool) {
	list, is := exactRows(shares)
	cover, coverIs := exactCover(rows)
	return list, cover, is && coverIs && len(list[0]) == len(cover)
}

// term is what stands in a sum: two products one after the other.
func (k *reckoning) term(left *big.Rat, number *big.Rat, right *big.Rat) *big.Rat {
	return k.product(k.product(left, number), right)
}

// inOrder adds the terms of some of the cover's rows to one sum, row by row.
func (k *reckoning) inOrder(left []*big.Rat, cover [][]*big.Rat, right []*big.Rat, rows ...int) *big.Rat {
	sum := new(big.Rat)
	for _, a := range rows {
		for b, number := range cover[a] {
			sum = k.sum(sum, k.term(left[a], number, right[b]))
		}
	}
	return sum
}

func rowNumbers(n int) []int {
	return []int{0, 1, 2, 3, 4, 5}[:n]
}

// timesRow has for each row of the cover the sum of what it has times right's.
func timesRow(cover [][]*big.Rat, right []*big.Rat) []*big.Rat {
	var list []*big.Rat
	for _, row := range cover {
		sum := new(big.Rat)
		for b, number := range row {
			sum.Add(sum, new(big.Rat).Mul(number, right[b]))
		}
		list = append(list, sum)
	}
	return list
}

// exactCarried has its numbers from the cover times a row of shares, times another one; the order that the document
// tells decides only whether a fraction on the way is too great.
func exactCarried(shares [][]ratio, rows [][]ratio) ([][]ratio, bool) {
	list, cover, is := exactBudget(shares, rows)
	if !is {
		return nil, false
	}
	var k reckoning
	var carried [][]*big.Rat
	for _, left := range list {
		var row []*big.Rat
		for _, right := range list {
			k.inOrder(left, cover, right, rowNumbers(len(cover))...)
			row = append(row, timesRow([][]*big.Rat{timesRow(cover, right)}, left)[0])
		}
		carried = append(carried, row)
	}
	fits, _ := fittedRows(carried)
	return fits, !k.tooGreat
}

func exactVariance(shares []ratio, rows [][]ratio) (ratio, bool) {
	list, cover, is := exactBudget(table(shares), rows)
	if !is {
		return zero, false
	}
	var k reckoning
	k.inOrder(list[0], cover, list[0], rowNumbers(len(cover))...)
	v, _ := fitted(timesRow([][]*big.Rat{timesRow(cover, list[0])}, list[0])[0])
	return v, !k.tooGreat
}

func exactParts(shares []ratio, rows [][]ratio) ([]ratio, bool) {
	list, cover, is := exactBudget(table(shares), rows)
	if !is {
		return nil, false
	}
	var k reckoning
	var parts []*big.Rat
	for i, sum := range timesRow(cover, list[0]) {
		k.inOrder(list[0], cover, list[0], i)
		parts = append(parts, new(big.Rat).Mul(list[0][i], sum))
	}
	fits, _ := fittedRows([][]*big.Rat{parts})
	if k.tooGreat {
		return nil, false
	}
	return fits[0], true
}

func exactAlone(variances []ratio) [][]ratio {
	if _, is := exactRows(table(variances)); !is {
		return nil
	}
	var rows [][]ratio
	for i, v := range variances {
		rows = append(rows, slices.Concat(make0(i), []ratio{v}, make0(len(variances)-i-1)))
	}
	return rows
}

func checkCover(t *testing.T, rows [][]ratio) bool {
	t.Helper()
	_, is := exactCover(rows)
	if got := impl.CoverOk(rows); got != is {
		t.Fatalf("CoverOk(%v): %v", rows, got)
	}
	return is
}

func checkVariance(t *testing.T, shares []ratio, rows [][]ratio) bool {
	t.Helper()
	want, wantIs := exactVariance(shares, rows)
	if !wantIs {
		want = zero
	}
	if got, is := impl.Variance(shares, rows); is != wantIs || got != want {
		t.Fatalf("Variance(%v, %v): %v %v, not %v %v", shares, rows, got, is, want, wantIs)
	}
	return wantIs
}

func checkParts(t *testing.T, shares []ratio, rows [][]ratio) bool {
	t.Helper()
	want, wantIs := exactParts(shares, rows)
	if got, is := impl.Parts(shares, rows); is != wantIs || !slices.Equal(got, want) {
		t.Fatalf("Parts(%v, %v): %v %v, not %v %v", shares, rows, got, is, want, wantIs)
	}
	return wantIs
}

func checkCarried(t *testing.T, shares [][]ratio, rows [][]ratio) bool {
	t.Helper()
	want, wantIs := exactCarried(shares, rows)
	if !wantIs {
		want = nil
	}
	if got, is := impl.Carried(shares, rows); is != wantIs || !sameRows(got, want) {
		t.Fatalf("Carried(%v, %v): %v %v, not %v %v", shares, rows, got, is, want, wantIs)
	}
	return wantIs
}

func checkAlone(t *testing.T, variances []ratio) bool {
	t.Helper()
	want := exactAlone(variances)
	if got := impl.Alone(variances); !sameRows(got, want) {
		t.Fatalf("Alone(%v): %v, not %v", variances, got, want)
	}
	return len(want) > 0
}

// checkBudget holds all of chapter 8 against the same in numbers of any length: the rows of shares together, and each.
func checkBudget(t *testing.T, shares [][]ratio, rows [][]ratio) {
	t.Helper()
	checkCover(t, rows)
	checkCarried(t, shares, rows)
	for _, row := range shares {
		checkVariance(t, row, rows)
		checkParts(t, row, rows)
		checkAlone(t, row)
	}
}

// mirrored has in each row below the diagonal what stands across it.
func mirrored(rows [][]ratio) [][]ratio {
	list := copied(rows)
	for i := range list {
		for k := range i {
			list[i][k] = list[k][i]
		}
	}
	return list
}

// counted is a cover of n rows, no two of its numbers alike but across the diagonal.
func counted(n int) [][]ratio { return mirrored(filled(n, n)) }

// chanceBudgets are by chance (of a fixed seed): covers of each size, with 1 to 6 rows of shares, of numbers of each
// kind, below 0, too, some of them a cover with noughts off the diagonal.
func chanceBudgets(seed int64, times int, tell func([][]ratio, [][]ratio)) {
	chance := rand.New(rand.NewSource(seed))
	for range times {
		for n := 1; n <= 6; n++ {
			for m := 1; m <= 6; m++ {
				cover := mirrored(turnedSome(chance, chanceTable(chance, n, n)))
				if chance.Intn(4) == 0 {
					cover = exactAlone(cover[0])
				}
				tell(turnedSome(chance, chanceTable(chance, m, n)), cover)
			}
		}
	}
}

// turnedSome gives some of the numbers the other sign.
func turnedSome(chance *rand.Rand, rows [][]ratio) [][]ratio {
	for _, row := range rows {
		for i := range row {
			if chance.Intn(3) == 0 {
				row[i].N = -row[i].N
			}
		}
	}
	return rows
}
