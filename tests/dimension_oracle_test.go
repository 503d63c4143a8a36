package tests

import (
	"fmt"
	"math"
	"math/big"
	"math/rand"
	"slices"
	"strings"
	"testing"

	"loop.example/g00069/impl"
)

func dim(powers ...int64) []int64 { return powers }

func dims(list ...[]int64) [][]int64 { return list }

// isDim tells what the document calls a dimension, by other means than the program's.
func isDim(d []int64) bool {
	inside := 0
	for _, power := range d {
		for n := int64(-9); n <= 9; n++ {
			if power == n {
				inside++
			}
		}
	}
	return len(d) == 5 && inside == 5
}

// exactAlike goes on in numbers of any length; it is nothing of none and of more than six, and where there is anything
// on the way that is no dimension.
func exactAlike(list [][]int64, powers []int64) []int64 {
	if len(list) == 0 || len(list) > 6 || len(list) != len(powers) {
		return nil
	}
	nine := big.NewInt(9)
	sums := [5]big.Int{}
	for i, d := range list {
		if !isDim(d) {
			return nil
		}
		for k := range sums {
			part := new(big.Int).Mul(big.NewInt(d[k]), big.NewInt(powers[i]))
			sums[k].Add(&sums[k], part)
			if part.CmpAbs(nine) > 0 || sums[k].CmpAbs(nine) > 0 {
				return nil
			}
		}
	}
	var d []int64
	for k := range sums {
		d = append(d, sums[k].Int64())
	}
	return d
}

func exactShow(d []int64) string {
	if !isDim(d) {
		return ""
	}
	var words []string
	for i, letter := range []string{"L", "M", "T", "I", "K"} {
		if d[i] != 0 {
			words = append(words, fmt.Sprintf("%s%d", letter, d[i]))
		}
	}
	if len(words) == 0 {
		return "1"
	}
	return strings.Join(words, " ")
}

// dimTable has the dimensions as its columns.
func dimTable(list [][]int64) [][]ratio {
	rows := make([][]ratio, 5)
	for i := range rows {
		for _, d := range list {
			rows[i] = append(rows[i], frac(d[i], 1))
		}
	}
	return rows
}

// exactGroups goes by the same steps as Kernel's in numbers of any length, and from each row counts up to its group.
func exactGroups(list [][]int64) ([][]int64, bool) {
	for _, d := range list {
		if !isDim(d) {
			return nil, false
		}
	}
	end, is := exactEchelon(dimTable(list))
	if !is || end.tooGreat {
		return nil, false
	}
	var groups [][]int64
	for _, row := range end.kernel() {
		groups = append(groups, countedUp(row))
	}
	return groups, true
}

// countedUp is for a row with a 1 in it: only whole times such a row is whole, so the first time is the least.
func countedUp(row []ratio) []int64 {
	times := int64(1)
	for slices.ContainsFunc(row, func(r ratio) bool { return times*r.N%r.D != 0 }) {
		times++
	}
	var group []int64
	for _, r := range row {
		group = append(group, times*r.N/r.D)
	}
	return group
}

func checkDim(t *testing.T, d []int64) {
	t.Helper()
	if got := impl.DimOk(d); got != isDim(d) {
		t.Fatalf("DimOk(%v): %v", d, got)
	}
	if got := impl.ShowDim(d); got != exactShow(d) {
		t.Fatalf("ShowDim(%v): %q, not %q", d, got, exactShow(d))
	}
}

func checkDimTimes(t *testing.T, a []int64, b []int64) bool {
	t.Helper()
	want := exactAlike(dims(a, b), []int64{1, 1})
	if got := impl.DimTimes(a, b); !slices.Equal(got, want) {
		t.Fatalf("DimTimes(%v, %v): %v, not %v", a, b, got, want)
	}
	return len(want) > 0
}

func checkDimPower(t *testing.T, a []int64, n int64) bool {
	t.Helper()
	want := exactAlike(dims(a), []int64{n})
	if got := impl.DimPower(a, n); !slices.Equal(got, want) {
		t.Fatalf("DimPower(%v, %d): %v, not %v", a, n, got, want)
	}
	return len(want) > 0
}

func checkAlike(t *testing.T, list [][]int64, powers []int64) bool {
	t.Helper()
	want := exactAlike(list, powers)
	if got := impl.Alike(list, powers); !slices.Equal(got, want) {
		t.Fatalf("Alike(%v, %v): %v, not %v", list, powers, got, want)
	}
	return len(want) > 0
}

func checkGroups(t *testing.T, list [][]int64) bool {
	t.Helper()
	want, wantIs := exactGroups(list)
	got, is := impl.Groups(list)
	if is != wantIs || !sameRows(got, want) {
		t.Fatalf("Groups(%v): %v %v, not %v %v", list, got, is, want, wantIs)
	}
	if is {
		checkBuckingham(t, list, got)
	}
	return is
}

// checkBuckingham is promise 4 by its words alone, and that no group is made of the others, or a multiple of another
// one in whole numbers.
func checkBuckingham(t *testing.T, list [][]int64, groups [][]int64) {
	t.Helper()
	if rank := impl.Rank(dimTable(list)); len(groups) != len(list)-int(rank) {
		t.Fatalf("Groups(%v): %v, and the table's rank is %d", list, groups, rank)
	}
	var rows [][]ratio
	for _, group := range groups {
		if len(group) != len(list) {
			t.Fatalf("Groups(%v): %v", list, group)
		}
		sums, divisor := [5]int64{}, new(big.Int)
		for i, d := range list {
			for k := range sums {
				sums[k] += group[i] * d[k]
			}
			divisor.GCD(nil, nil, divisor, new(big.Int).Abs(big.NewInt(group[i])))
		}
		if sums != [5]int64{} || divisor.Cmp(big.NewInt(1)) != 0 {
			t.Fatalf("Groups(%v): %v has the dimension %v, and the divisor %v", list, group, sums, divisor)
		}
		rows = append(rows, whole(group...))
	}
	if end, is := exactEchelon(rows); is && end.rank() != int64(len(groups)) {
		t.Fatalf("Groups(%v): %v hang together", list, groups)
	}
}

// wrongDims have each reason there is for a list not to be a dimension.
func wrongDims() [][]int64 {
	list := dims(nil, dim())
	for n := 1; n <= 12; n++ {
		if n != 5 {
			list = append(list, make([]int64, n), slices.Repeat([]int64{1}, n))
		}
	}
	list = append(list, make([]int64, 100000))
	for _, power := range []int64{-10, 10, 11, -19, 255, 256, 1 << 32, 1<<32 + 1, -1 << 32, twoTo62, math.MinInt64, math.MinInt64 + 1, math.MaxInt64 - 1, math.MaxInt64} {
		for place := range 5 {
			d := make([]int64, 5)
			d[place] = power
			list = append(list, d)
		}
		list = append(list, slices.Repeat([]int64{power}, 5))
	}
	return append(list, dim(math.MinInt64, math.MaxInt64, math.MinInt64, math.MaxInt64, 0), dim(10, -10, 0, 0, 0), dim(9, 9, 9, 9, 9, 9))
}

// everyPower has each power from -9 to 9 in each place, alone and among others.
func everyPower() [][]int64 {
	var list [][]int64
	for power := int64(-9); power <= 9; power++ {
		for place := range 5 {
			alone, among := make([]int64, 5), dim(1, -2, 0, 3, -9)
			alone[place], among[place] = power, power
			list = append(list, alone, among)
		}
	}
	return list
}

// steepNumbers are edge numbers, small ones, and such by which a power that wraps round would come back among -9 to 9.
func steepNumbers() []int64 {
	list := edgeNumbers()
	for n := int64(-20); n <= 20; n++ {
		list = append(list, n)
	}
	for n := range uint64(8) {
		for by := range uint64(5) {
			list = append(list, int64(n<<61+by-2))
		}
	}
	for odd := uint64(1); odd <= 9; odd += 2 {
		wrapped := odd
		for range 6 {
			wrapped *= 2 - odd*wrapped
		}
		for n := range uint64(10) {
			list = append(list, int64(n*wrapped), -int64(n*wrapped))
		}
	}
	return list
}

// chanceDims are by chance (of a fixed seed): lists of 1 to 6 dimensions of each kind.
func chanceDims(seed int64, times int, tell func([][]int64)) {
	chance := rand.New(rand.NewSource(seed))
	for range times {
		for n := 1; n <= 6; n++ {
			tell(chanceList(chance, n))
		}
	}
}

// chanceList is of small powers or great ones, of few letters or all; and some of it are alike, a multiple of one, or
// without dimension.
func chanceList(chance *rand.Rand, n int) [][]int64 {
	most, letters := []int64{1, 2, 9}[chance.Intn(3)], chance.Intn(5)+1
	list := make([][]int64, n)
	for i := range list {
		list[i] = make([]int64, 5)
		for range letters {
			list[i][5-1-chance.Intn(letters)] = chance.Int63n(2*most+1) - most
		}
		other, times := list[chance.Intn(i+1)], chance.Int63n(9)-4
		if d := exactAlike(dims(other), []int64{times}); d != nil && chance.Intn(4) == 0 {
			list[i] = d
		}
	}
	return list
}
