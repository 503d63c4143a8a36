package tests

import (
	"math/big"
	"slices"
	"testing"

	"loop.example/g00069/impl"
)

// A budgetCase has no want where the answer is false.
type budgetCase struct {
	shares, rows, want [][]ratio
}

const (
	halfPart = maxPart / 2
	twelfth  = 80000000 // twelve of them are a fraction's part, thirteen are not
)

// wholeRows are rows of whole numbers, each times times.
func wholeRows(times int64, rows ...[]int64) [][]ratio {
	var list [][]ratio
	for _, row := range rows {
		list = append(list, nil)
		for _, n := range row {
			list[len(list)-1] = append(list[len(list)-1], frac(n*times, 1))
		}
	}
	return list
}

func TestCoverOkTells(t *testing.T) {
	for _, rows := range [][][]ratio{
		table(whole(4, 1), whole(1, 9)), table(whole(0)), table(whole(-7)), table(whole(maxPart)), {{frac(-1, maxPart)}}, table(make0(6), make0(6), make0(6), make0(6), make0(6), make0(6)), identity(6),
		// Neither its diagonal nor the whole has to be above 0.
		table(whole(-1, 5), whole(5, -1)), table(whole(0, -3), whole(-3, 0)), table([]ratio{frac(1, 2), frac(-1, 3)}, []ratio{frac(-1, 3), frac(1, 5)}),
		counted(1), counted(2), counted(3), counted(4), counted(5), counted(6),
	} {
		if !impl.CoverOk(rows) || !checkCover(t, rows) {
			t.Errorf("%v is refused", rows)
		}
	}
	for _, rows := range append(noTables(), filled(1, 2), filled(2, 1), filled(6, 5), filled(5, 6), filled(7, 7), identity(7),
		table(whole(1, 2), whole(3, 1)), table(whole(0, 1), whole(-1, 0)), table(whole(1, 2, 3), whole(2, 4, 5)), table(whole(1, 2), whole(2, 4), whole(3, 5)),
		// Alike as numbers, but no fractions.
		table([]ratio{frac(1, 1), frac(1, 2)}, []ratio{frac(2, 4), frac(1, 1)}), table([]ratio{frac(1, 1), frac(2, 4)}, []ratio{frac(2, 4), frac(1, 1)}), table([]ratio{zero, zero}, []ratio{zero, zero}), table([]ratio{zero}),
		// Unlike in its D alone, in its sign alone.
		table([]ratio{frac(1, 1), frac(1, 2)}, []ratio{frac(1, 3), frac(1, 1)}), table([]ratio{frac(1, 1), frac(1, 2)}, []ratio{frac(-1, 2), frac(1, 1)}), table([]ratio{frac(1, 1), frac(1, maxPart)}, []ratio{frac(1, maxPart-1), frac(1, 1)})) {
		if impl.CoverOk(rows) || checkCover(t, rows) {
			t.Errorf("%v is taken", rows)
		}
	}
}

// At one place alone, on either side of the diagonal, a cover of each size is unlike across it: it is none, and no
// function takes it. On the diagonal any number may stand.
func TestCoverOkAtEachPlace(t *testing.T) {
	for n := 1; n <= 6; n++ {
		for i := range n {
			for k := range n {
				for _, other := range []ratio{frac(1, 1000), frac(-8, 1), frac(maxPart, 1)} {
					rows := counted(n)
					rows[i][k] = other
					if got := impl.CoverOk(rows); got != (i == k) || checkCover(t, rows) != got {
						t.Fatalf("CoverOk(%v): %v", rows, got)
					}
					checkBudget(t, table(filled(1, n)[0], make0(n)), rows)
				}
			}
		}
	}
}

func TestVarianceTells(t *testing.T) {
	ones := whole(1, 1, 1, 1, 1, 1)
	for _, c := range []struct {
		shares []ratio
		rows   [][]ratio
		want   ratio
	}{
		{whole(2, -1), table(whole(4, 1), whole(1, 9)), frac(21, 1)}, {whole(-2, 1), table(whole(4, 1), whole(1, 9)), frac(21, 1)}, {whole(2, 1), table(whole(4, 1), whole(1, 9)), frac(29, 1)},
		// One share, a cover of one row.
		{whole(3), table(whole(5)), frac(45, 1)}, {whole(-3), table(whole(5)), frac(45, 1)}, {whole(3), table(whole(-5)), frac(-45, 1)}, {whole(0), table(whole(5)), frac(0, 1)}, {whole(3), table(whole(0)), frac(0, 1)}, {[]ratio{frac(1, 2)}, [][]ratio{{frac(8, 9)}}, frac(2, 9)},
		// Six shares.
		{ones, identity(6), frac(6, 1)}, {whole(1, 2, 3, 4, 5, 6), identity(6), frac(91, 1)}, {whole(1, 2, 3, 4, 5, 6), table(ones, ones, ones, ones, ones, ones), frac(441, 1)}, {whole(1, -2, 3, -4, 5, -6), table(ones, ones, ones, ones, ones, ones), frac(9, 1)},
		// A cover with noughts only, shares with noughts only, and a cover with noughts on the diagonal.
		{whole(7, -8, 9), make0Rows(3, 3), frac(0, 1)}, {whole(maxPart, maxPart), make0Rows(2, 2), frac(0, 1)}, {make0(3), counted(3), frac(0, 1)}, {whole(2, 3), table(whole(0, 5), whole(5, 0)), frac(60, 1)},
		// Numbers below 0: the whole may be, too.
		{whole(1, 1), table(whole(-1, 2), whole(2, -3)), frac(0, 1)}, {whole(1, -1), table(whole(-1, 2), whole(2, -3)), frac(-8, 1)}, {whole(-1, -1), table(whole(1, -2), whole(-2, 1)), frac(-2, 1)},
		{[]ratio{frac(1, 2), frac(-1, 3)}, table([]ratio{frac(4, 1), frac(3, 2)}, []ratio{frac(3, 2), frac(9, 1)}), frac(3, 2)},
		// Just fractions.
		{whole(1, 1), table(whole(maxPart-1, 0), whole(0, 1)), frac(maxPart, 1)}, {whole(1, 1), table(whole(1-maxPart, 0), whole(0, -1)), frac(-maxPart, 1)}, {whole(1), table(whole(maxPart)), frac(maxPart, 1)}, {whole(-1), table(whole(-maxPart)), frac(-maxPart, 1)}, {whole(31622), table(whole(1)), frac(999950884, 1)},
		{[]ratio{frac(1, 31622)}, table(whole(1)), frac(1, 999950884)}, {whole(1, 1), table(whole(1, 0), []ratio{frac(0, 1), frac(1, maxPart-1)}), frac(maxPart, maxPart-1)}, {whole(1, 1), table(whole(halfPart, halfPart/2), whole(halfPart/2, 0)), frac(maxPart, 1)},
		// The square of the share would be too great, but it is nowhere on the way.
		{whole(40000), table([]ratio{frac(1, maxPart)}), frac(8, 5)}, {[]ratio{frac(1, 40000)}, table(whole(maxPart)), frac(5, 8)},
		// One sum, row by row: that of the second row alone would be too great, or that of the diagonal alone.
		{whole(1, 1), table(whole(-maxPart, halfPart), whole(halfPart, halfPart+1)), frac(halfPart+1, 1)}, {whole(1, 1), table(whole(maxPart, -maxPart), whole(-maxPart, maxPart)), frac(0, 1)},
	} {
		if got, is := impl.Variance(c.shares, c.rows); !is || got != c.want {
			t.Errorf("Variance(%v, %v): %v %v, not %v", c.shares, c.rows, got, is, c.want)
		}
		checkBudget(t, table(c.shares), c.rows)
	}
}

// Too great is a product or a sum, the last one alone or one on the way to an end that would be right.
func TestVarianceRefusesWhatIsTooGreat(t *testing.T) {
	for _, c := range []struct {
		shares []ratio
		rows   [][]ratio
	}{
		// The last sum.
		{whole(1, 1), table(whole(maxPart, 0), whole(0, 1))}, {whole(1, 1), table(whole(-maxPart, 0), whole(0, -1))}, {whole(1, 1), table([]ratio{frac(1, maxPart), frac(0, 1)}, []ratio{frac(0, 1), frac(1, 3)})}, {whole(1, 1), table(whole(1, 0), []ratio{frac(0, 1), frac(1, maxPart)})},
		{whole(1, 1, 1, 1, 1, 1), exactAlone(whole(maxPart, 0, 0, 0, 0, 1))}, {whole(1, 1), table(whole(halfPart, halfPart/2), whole(halfPart/2, 1))},
		// The last product.
		{whole(40000), table(whole(1))}, {whole(31623), table(whole(1))}, {[]ratio{frac(1, 31623)}, table(whole(1))}, {whole(2), table(whole(halfPart))}, {whole(1, 2), table(whole(-maxPart, 0), whole(0, halfPart))}, {[]ratio{frac(1, 2)}, [][]ratio{{frac(1, halfPart)}}},
		// The first product, where 0 or a part comes behind it.
		{whole(2, 0), table(whole(0, maxPart), whole(maxPart, 0))}, {whole(0, 2), table(whole(0, maxPart), whole(maxPart, 0))}, {[]ratio{frac(1, 2), frac(0, 1)}, table([]ratio{frac(0, 1), frac(1, maxPart)}, []ratio{frac(1, maxPart), frac(0, 1)})}, {[]ratio{frac(2, 1), frac(1, 8)}, table(whole(0, maxPart), whole(maxPart, 0))},
		// A sum on the way.
		{whole(1, 1), table(whole(halfPart, halfPart), whole(halfPart, -halfPart))}, {whole(1, 1), table(whole(maxPart, 1), whole(1, -maxPart))}, {whole(1, 1), table(whole(1, maxPart), whole(maxPart, -maxPart))}, {whole(1, 1), table([]ratio{frac(1, maxPart), frac(1, 3)}, []ratio{frac(1, 3), frac(-2, 3)})},
	} {
		if got, is := impl.Variance(c.shares, c.rows); is || got != zero {
			t.Errorf("Variance(%v, %v): %v %v", c.shares, c.rows, got, is)
		}
		checkBudget(t, table(c.shares), c.rows)
	}
}

func TestAloneTells(t *testing.T) {
	for _, c := range []struct {
		variances []ratio
		want      [][]ratio
	}{
		{whole(3), table(whole(3))}, {whole(0), table(whole(0))}, {whole(-3), table(whole(-3))}, {whole(4, 9), table(whole(4, 0), whole(0, 9))}, {[]ratio{frac(1, 2), frac(-1, 3), frac(maxPart, 1)}, table([]ratio{frac(1, 2), frac(0, 1), frac(0, 1)}, []ratio{frac(0, 1), frac(-1, 3), frac(0, 1)}, whole(0, 0, maxPart))},
		{whole(1, 1, 1, 1, 1, 1), identity(6)}, {whole(0, 0), make0Rows(2, 2)},
		{nil, nil}, {whole(), nil}, {whole(1, 1, 1, 1, 1, 1, 1), nil}, {make0(8), nil}, {make0(100000), nil}, {[]ratio{zero}, nil}, {[]ratio{frac(2, 4)}, nil}, {[]ratio{frac(1, 1), frac(1, -1)}, nil}, {whole(1, maxPart+1), nil}, {whole(-maxPart-1, 1), nil},
	} {
		if got := impl.Alone(c.variances); !sameRows(got, c.want) || checkAlone(t, c.variances) != (c.want != nil) {
			t.Errorf("Alone(%v): %v, not %v", c.variances, got, c.want)
		}
		if got := impl.Alone(c.variances); impl.CoverOk(got) != (c.want != nil) {
			t.Errorf("CoverOk of Alone(%v): %v", c.variances, got)
		}
	}
}

func TestPartsTells(t *testing.T) {
	for _, c := range []struct {
		shares []ratio
		rows   [][]ratio
		want   []ratio
	}{
		{whole(2, -1), table(whole(4, 1), whole(1, 9)), whole(14, 7)}, {whole(2, 1), table(whole(4, 1), whole(1, 9)), whole(18, 11)}, {whole(3), table(whole(5)), whole(45)}, {whole(-3), table(whole(5)), whole(45)}, {whole(3), table(whole(-5)), whole(-45)},
		{whole(1, 2, 3, 4, 5, 6), identity(6), whole(1, 4, 9, 16, 25, 36)}, {whole(1, -2, 3), table(whole(1, 1, 1), whole(1, 1, 1), whole(1, 1, 1)), whole(2, -4, 6)}, {whole(1, 2, 3), counted(3), whole(14, 100, 222)},
		{whole(7, -8, 9), make0Rows(3, 3), whole(0, 0, 0)}, {whole(0, 3), table(whole(4, 1), whole(1, 9)), whole(0, 81)}, {[]ratio{frac(1, 2), frac(-1, 3)}, table([]ratio{frac(4, 1), frac(3, 2)}, []ratio{frac(3, 2), frac(9, 1)}), []ratio{frac(3, 4), frac(3, 4)}},
		// Just fractions, also where the sum of all is none.
		{whole(1, 1), table(whole(maxPart, 0), whole(0, maxPart)), whole(maxPart, maxPart)}, {whole(1, 1), table(whole(halfPart, halfPart), whole(halfPart, -halfPart)), whole(maxPart, 0)}, {whole(1, 1), table(whole(-halfPart, -halfPart), whole(-halfPart, halfPart)), whole(-maxPart, 0)}, {whole(40000), table([]ratio{frac(1, maxPart)}), []ratio{frac(8, 5)}},
		// Too great: in the first part alone, in the last one alone, in its last step alone, on the way alone.
		{whole(1, 1), table(whole(halfPart+1, halfPart), whole(halfPart, 0)), nil}, {whole(1, 1), table(whole(0, halfPart), whole(halfPart, halfPart+1)), nil}, {whole(1, 1), table(whole(-maxPart, halfPart), whole(halfPart, halfPart+1)), nil}, {whole(1, 1), table(whole(0, 1), whole(1, maxPart)), nil}, {whole(1, 1, 2), exactAlone(whole(1, 1, halfPart)), nil},
		{whole(1, 1, -1), table(whole(halfPart, halfPart+1, halfPart+1), whole(halfPart+1, 0, 0), whole(halfPart+1, 0, 0)), nil}, {whole(1, 1, 1), table(whole(0, 0, 0), whole(0, 0, maxPart), whole(0, maxPart, 1)), nil}, {whole(2, 0), table(whole(0, maxPart), whole(maxPart, 0)), nil}, {whole(0, 2), table(whole(0, maxPart), whole(maxPart, 0)), nil},
	} {
		if got, is := impl.Parts(c.shares, c.rows); is != (c.want != nil) || !slices.Equal(got, c.want) {
			t.Errorf("Parts(%v, %v): %v %v, not %v", c.shares, c.rows, got, is, c.want)
		}
		checkBudget(t, table(c.shares), c.rows)
	}
}

func TestCarriedTells(t *testing.T) {
	cover := table(whole(4, 1), whole(1, 9))
	for _, c := range []budgetCase{
		{table(whole(2, -1), whole(1, 0)), cover, table(whole(21, 7), whole(7, 4))}, {table(whole(1, 0), whole(2, -1)), cover, table(whole(4, 7), whole(7, 21))},
		// One row of shares, one share, both; more rows than shares.
		{table(whole(2, -1)), cover, table(whole(21))}, {table(whole(2), whole(-3), whole(0)), table(whole(5)), table(whole(20, -30, 0), whole(-30, 45, 0), whole(0, 0, 0))}, {table(whole(-3)), table(whole(-5)), table(whole(-45))},
		{table(whole(1, 0), whole(0, 1), whole(1, 1)), cover, table(whole(4, 1, 5), whole(1, 9, 10), whole(5, 10, 15))}, {table(whole(2, -1), whole(2, -1)), cover, table(whole(21, 21), whole(21, 21))}, {table(whole(2, -1), whole(-2, 1)), cover, table(whole(21, -21), whole(-21, 21))},
		// Each alone, each in another's place; six rows of six shares, one row of six, six rows of one.
		{identity(2), cover, cover}, {table(whole(0, 1), whole(1, 0)), cover, table(whole(9, 1), whole(1, 4))}, {identity(6), counted(6), counted(6)}, {identity(6), identity(6), identity(6)}, {table(whole(1, 1, 1, 1, 1, 1)), identity(6), table(whole(6))},
		{table(whole(1), whole(2), whole(3), whole(4), whole(5), whole(6))[:2], table(whole(10)), table(whole(10, 20), whole(20, 40))}, {table(whole(1), whole(1), whole(1), whole(1), whole(1), whole(1)), table(whole(0)), make0Rows(6, 6)},
		// Noughts only.
		{table(whole(7, -8, 9), whole(1, 2, 3)), make0Rows(3, 3), make0Rows(2, 2)}, {make0Rows(3, 2), cover, make0Rows(3, 3)},
		{table([]ratio{frac(1, 2), frac(-1, 3)}, whole(0, 2)), table([]ratio{frac(4, 1), frac(3, 2)}, []ratio{frac(3, 2), frac(9, 1)}), table([]ratio{frac(3, 2), frac(-9, 2)}, []ratio{frac(-9, 2), frac(36, 1)})},
		// Just fractions; the last number alone is too great, the first one alone, one off the diagonal alone.
		{table(whole(1, 0), whole(0, 1)), table(whole(maxPart, -maxPart), whole(-maxPart, maxPart)), table(whole(maxPart, -maxPart), whole(-maxPart, maxPart))}, {table(whole(1, 0), whole(1, 1)), table(whole(maxPart, 0), whole(0, 1)), nil}, {table(whole(1, 1), whole(1, 0)), table(whole(maxPart, 0), whole(0, 1)), nil},
		{table(whole(1, 1), whole(1, -1)), exactAlone(whole(600000000, -600000000)), nil}, {table(whole(1, 1), whole(1, -1)), exactAlone(whole(halfPart, -halfPart)), table(whole(0, maxPart), whole(maxPart, 0))}, {table(whole(31622), whole(31623)), table(whole(1)), nil}, {table(whole(31622), whole(31622)), table(whole(1)), table(whole(999950884, 999950884), whole(999950884, 999950884))},
		// The sum row by row is too great on its way at one place alone; across the diagonal it is not.
		{wholeRows(1, []int64{1, -1}, []int64{-2, -1}), wholeRows(twelfth, []int64{-2, 5}, []int64{5, 0}), nil}, {wholeRows(1, []int64{-2, -1}, []int64{1, -1}), wholeRows(twelfth, []int64{-2, 5}, []int64{5, 0}), nil},
		{wholeRows(1, []int64{1, 1, -1}, []int64{0, 1, 1}), wholeRows(twelfth, []int64{8, 0, -2}, []int64{0, -7, 8}, []int64{-2, 8, 0}), nil}, {wholeRows(1, []int64{0, 1, 1}, []int64{1, 1, -1}), wholeRows(twelfth, []int64{8, 0, -2}, []int64{0, -7, 8}, []int64{-2, 8, 0}), nil},
	} {
		if got, is := impl.Carried(c.shares, c.rows); is != (c.want != nil) || !sameRows(got, c.want) {
			t.Errorf("Carried(%v, %v): %v %v, not %v", c.shares, c.rows, got, is, c.want)
		}
		checkBudget(t, c.shares, c.rows)
	}
}

// What is refused in the cases above as too great across the diagonal alone has a Variance at each row.
func TestCarriedIsNotMirrored(t *testing.T) {
	shares, rows := wholeRows(1, []int64{1, -1}, []int64{-2, -1}), wholeRows(twelfth, []int64{-2, 5}, []int64{5, 0})
	for _, row := range shares {
		if _, is := impl.Variance(row, rows); !is {
			t.Errorf("Variance(%v, %v)", row, rows)
		}
	}
	list, cover, _ := exactBudget(shares, rows)
	var one, other reckoning
	one.inOrder(list[0], cover, list[1], 0, 1)
	other.inOrder(list[1], cover, list[0], 0, 1)
	if one.tooGreat || !other.tooGreat {
		t.Error("no such case", one, other)
	}
}

func TestBudgetsAreExact(t *testing.T) {
	variances, parts, carried, either := map[bool]int{}, map[bool]int{}, map[bool]int{}, map[[2]bool]int{}
	chanceBudgets(81, 100, func(shares [][]ratio, rows [][]ratio) {
		checkBudget(t, shares, rows)
		_, is := impl.Carried(shares, rows)
		carried[is]++
		for _, row := range shares {
			_, varianceIs := impl.Variance(row, rows)
			_, partsIs := impl.Parts(row, rows)
			variances[varianceIs]++
			parts[partsIs]++
			either[[2]bool{varianceIs, partsIs}]++
		}
	})
	for _, told := range []map[bool]int{variances, parts, carried} {
		if told[true] < 1000 || told[false] < 1000 {
			t.Error("too few", told)
		}
	}
	if either[[2]bool{true, false}] == 0 || either[[2]bool{false, true}] == 0 {
		t.Error("too few", either)
	}
}

func sumOf(list []ratio) *big.Rat {
	sum := new(big.Rat)
	for _, r := range list {
		sum.Add(sum, big.NewRat(r.N, r.D))
	}
	return sum
}

// Promise 8: Parts make the Variance; what is told of the whole is their sum, and a sum that is none is told nowhere.
func TestPartsMakeTheVariance(t *testing.T) {
	told := 0
	chanceBudgets(82, 300, func(shares [][]ratio, rows [][]ratio) {
		for _, row := range shares {
			parts, is := impl.Parts(row, rows)
			all, allIs := impl.Variance(row, rows)
			if !is {
				continue
			}
			want, fits := fitted(sumOf(parts))
			if allIs && (!fits || all != want) || len(parts) != len(row) {
				t.Fatalf("%v, %v: Variance %v, Parts %v", row, rows, all, parts)
			}
			if allIs {
				told++
			}
		}
	})
	if told < 5000 {
		t.Error("too few", told)
	}
}

// Promise 8: what is carried on is what is carried by both at once, from each number of shares to each other one.
func TestCarriedTwiceIsCarriedOnce(t *testing.T) {
	told := 0
	chanceBudgets(83, 150, func(shares [][]ratio, rows [][]ratio) {
		once, is := impl.Carried(shares, rows)
		if !is {
			return
		}
		if !impl.CoverOk(once) || len(once) != len(shares) {
			t.Fatalf("Carried(%v, %v): %v", shares, rows, once)
		}
		for n := 1; n <= 6; n++ {
			on := turned(filled(n, len(once)))
			both, bothIs := impl.Times(on, shares)
			twice, twiceIs := impl.Carried(on, once)
			direct, directIs := impl.Carried(both, rows)
			if !bothIs || !twiceIs || !directIs {
				continue
			}
			if told++; !sameRows(twice, direct) {
				t.Fatalf("%v, %v, %v: twice %v, once %v", on, shares, rows, twice, direct)
			}
		}
	})
	if told < 5000 {
		t.Error("too few", told)
	}
}

// turned has every third number with the other sign, so that neither what is told nor its signs are all alike.
func turned(rows [][]ratio) [][]ratio {
	for i, row := range rows {
		for k := range row {
			if (i+2*k)%3 == 1 {
				row[k].N = -row[k].N
			}
		}
	}
	return rows
}

// Carried of one row is its Variance, and so is each number on the diagonal of Carried of several.
func TestCarriedHasTheVariances(t *testing.T) {
	told := 0
	chanceBudgets(84, 200, func(shares [][]ratio, rows [][]ratio) {
		all, is := impl.Carried(shares, rows)
		for i, row := range shares {
			v, vIs := impl.Variance(row, rows)
			one, oneIs := impl.Carried(table(row), rows)
			if vIs != oneIs || vIs && !sameRows(one, table([]ratio{v})) {
				t.Fatalf("%v, %v: Variance %v, Carried %v", row, rows, v, one)
			}
			if is && (!vIs || all[i][i] != v) {
				t.Fatalf("%v, %v: Variance of %d %v, Carried %v", shares, rows, i, v, all)
			}
		}
		if is {
			told++
		}
	})
	if told < 2000 {
		t.Error("too few", told)
	}
}

func notBelow0(row []ratio) []ratio {
	list := slices.Clone(row)
	for i := range list {
		list[i].N = max(list[i].N, -list[i].N)
	}
	return list
}

// Promise 8: no Variance of Alone that are not below 0 is below 0, nor one of its Parts; of one that is below 0, some is.
func TestVarianceOfAloneIsNotBelow0(t *testing.T) {
	told := 0
	chanceBudgets(85, 300, func(shares [][]ratio, rows [][]ratio) {
		alone := impl.Alone(notBelow0(rows[0]))
		if !impl.CoverOk(alone) {
			t.Fatalf("Alone(%v): %v", notBelow0(rows[0]), alone)
		}
		for _, row := range shares {
			v, is := impl.Variance(row, alone)
			if !is {
				continue
			}
			parts, partsIs := impl.Parts(row, alone)
			if v.N < 0 || !partsIs || slices.ContainsFunc(parts, func(r ratio) bool { return r.N < 0 }) {
				t.Fatalf("%v, %v: Variance %v, Parts %v %v", row, alone, v, parts, partsIs)
			}
			told++
		}
	})
	if told < 5000 {
		t.Error("too few", told)
	}
	if v, is := impl.Variance(whole(1, 2), impl.Alone(whole(3, -1))); !is || v != frac(-1, 1) {
		t.Error(v, is)
	}
}

// Promise 8, CAUCHY: what two of Carried of Alone that are not below 0 have together is, squared, no more than the
// product of their own; and just that where one row of shares is a multiple of the other.
func TestCauchyOfCarried(t *testing.T) {
	told, less := 0, 0
	chanceBudgets(86, 400, func(shares [][]ratio, rows [][]ratio) {
		cover, is := impl.Carried(shares, impl.Alone(notBelow0(rows[0])))
		if !is {
			return
		}
		for i, row := range cover {
			for k, r := range row {
				squared := new(big.Rat).Mul(big.NewRat(r.N, r.D), big.NewRat(r.N, r.D))
				product := new(big.Rat).Mul(big.NewRat(row[i].N, row[i].D), big.NewRat(cover[k][k].N, cover[k][k].D))
				if squared.Cmp(product) > 0 || i == k && squared.Cmp(product) != 0 {
					t.Fatalf("%v of %v: %v and %v", shares, rows[0], squared, product)
				}
				if told++; squared.Cmp(product) < 0 {
					less++
				}
			}
		}
	})
	if told < 20000 || less < 5000 {
		t.Error("too few", told, less)
	}
	cover, is := impl.Carried(table(whole(1, 2, 3), whole(-2, -4, -6)), impl.Alone(whole(5, 7, 11)))
	if !is || !sameRows(cover, table(whole(132, -264), whole(-264, 528))) {
		t.Error(cover, is)
	}
}
