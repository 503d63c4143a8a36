package tests

import (
	"math"
	"slices"
	"testing"

	"loop.example/g00069/impl"
)

// nothingOfBudget: no function of chapter 8 takes these together; CoverOk and Alone have a test of their own.
func nothingOfBudget(t *testing.T, shares [][]ratio, rows [][]ratio) {
	t.Helper()
	if got, is := impl.Carried(shares, rows); is || len(got) > 0 {
		t.Fatalf("Carried(%v, %v): %v %v", shares, rows, got, is)
	}
	checkCarried(t, shares, rows)
	checkCover(t, rows)
}

func nothingOfShares(t *testing.T, shares []ratio, rows [][]ratio) {
	t.Helper()
	if got, is := impl.Variance(shares, rows); is || got != zero {
		t.Fatalf("Variance(%v, %v): %v %v", shares, rows, got, is)
	}
	if got, is := impl.Parts(shares, rows); is || len(got) > 0 {
		t.Fatalf("Parts(%v, %v): %v %v", shares, rows, got, is)
	}
	nothingOfBudget(t, table(shares), rows)
	checkVariance(t, shares, rows)
	checkParts(t, shares, rows)
}

// Promise 21 for chapter 8: shares and covers of each size beside each other, those of no and of seven numbers among them.
func TestBudgetsOfEachSize(t *testing.T) {
	for n := range 9 {
		for size := range 9 {
			fits := n >= 1 && n <= 6 && n == size
			shares, rows := filled(1, n)[0], counted(size)
			if got := impl.CoverOk(rows); got != (size >= 1 && size <= 6) {
				t.Fatalf("CoverOk(%v): %v", rows, got)
			}
			if got := checkAlone(t, shares); got != (n >= 1 && n <= 6) {
				t.Fatalf("Alone(%v): %v", shares, got)
			}
			if fits {
				checkBudget(t, table(shares), rows)
			} else {
				nothingOfShares(t, shares, rows)
			}
			for m := range 9 {
				if is := checkCarried(t, filled(m, n), rows); is != (fits && m >= 1 && m <= 6) {
					t.Fatal(m, n, size, is)
				}
			}
		}
	}
}

// A cover with a row too many or too few, a row too long or too short, or with no rows, beside shares that would fit.
func TestBudgetsRefuseWhatIsNoCover(t *testing.T) {
	for n := 1; n <= 6; n++ {
		shares, good := filled(2, n), counted(n)
		if !checkCarried(t, shares, good) {
			t.Fatal(n)
		}
		wrong := [][][]ratio{nil, {}, filled(n, n+1), filled(n+1, n), counted(n + 1), counted(n)[:n-1], counted(n - 1), append(counted(n), good[0]), make([][]ratio, n)}
		for i := range n {
			longer, shorter, none := counted(n), counted(n), counted(n)
			longer[i] = append(longer[i], frac(0, 1))
			shorter[i] = shorter[i][:n-1]
			none[i] = nil
			wrong = append(wrong, longer, shorter, none)
		}
		for _, rows := range wrong {
			if impl.CoverOk(rows) && len(rows) == n {
				t.Fatalf("%v is taken", rows)
			}
			for _, row := range append(shares, make0(n)) {
				nothingOfShares(t, row, rows)
			}
			nothingOfBudget(t, shares, rows)
		}
	}
	for _, rows := range noTables() {
		nothingOfShares(t, whole(1), rows)
		nothingOfBudget(t, identity(max(1, min(6, len(rows)))), rows)
	}
}

// Rows of shares that are not as long as each other, where the first one, or the last one, would fit.
func TestCarriedRefusesWhatIsNoTable(t *testing.T) {
	for n := 1; n <= 6; n++ {
		for m := 1; m <= 6; m++ {
			for i := range m {
				for _, other := range []int{0, n - 1, n + 1} {
					shares := filled(m, n)
					shares[i] = make0(other)
					nothingOfBudget(t, shares, identity(n))
				}
			}
		}
	}
	for _, shares := range noTables() {
		for n := 1; n <= 6; n++ {
			nothingOfBudget(t, shares, identity(n))
		}
	}
	for _, shares := range [][]ratio{nil, whole(1, 2, 3, 4, 5, 6, 7), make0(100000)} {
		for n := range 8 {
			nothingOfShares(t, shares, identity(n))
		}
	}
}

// A number that is no fraction, at each place of shares, of a cover (there, and across the diagonal, too), of variances.
func TestBudgetsRefuseWhatIsNotRight(t *testing.T) {
	for _, wrong := range strangeRatios() {
		for _, n := range []int{1, 2, 3, 6} {
			for i := range n {
				row := make0(n)
				row[i] = wrong
				nothingOfShares(t, row, identity(n))
				nothingOfShares(t, row, make0Rows(n, n))
				nothingOfBudget(t, table(make0(n), row, make0(n)), identity(n))
				if got := impl.Alone(row); len(got) > 0 || checkAlone(t, row) {
					t.Fatalf("Alone(%v): %v", row, got)
				}
				for k := range n {
					rows, both := make0Rows(n, n), make0Rows(n, n)
					rows[i][k], both[i][k], both[k][i] = wrong, wrong, wrong
					for _, cover := range [][][]ratio{rows, both} {
						if impl.CoverOk(cover) {
							t.Fatalf("%v is taken", cover)
						}
						nothingOfShares(t, make0(n), cover)
						nothingOfBudget(t, identity(n), cover)
					}
				}
			}
		}
	}
}

// Each pair of edge numbers as one fraction, right or wrong.
func TestBudgetsAtEveryArgument(t *testing.T) {
	for _, r := range anyRatios() {
		for _, shares := range [][]ratio{{r}, whole(1), whole(-2), {r, frac(1, 1)}, {frac(1, 2), r}, whole(1, -1), {r, r}} {
			for _, rows := range [][][]ratio{{{r}}, {{frac(-1, 3)}}, {{r, frac(1, 2)}, {frac(1, 2), frac(3, 1)}}, {{frac(0, 1), r}, {r, frac(0, 1)}}, {{r, r}, {r, r}}, {{frac(1, 1), r}, {frac(1, 2), frac(1, 1)}}, identity(2)} {
				checkBudget(t, table(shares), rows)
				checkBudget(t, table(shares, make0(len(shares)), shares), rows)
			}
		}
	}
}

// budgetArguments are shares and covers whose answers are told, and such as are refused at the start or on the way.
func budgetArguments() []budgetCase {
	list := []budgetCase{{filled(2, 2), counted(2), nil}, {filled(6, 6), counted(6), nil}, {filled(1, 1), counted(1), nil}, {identity(6), identity(6), nil}, {filled(1, 6), counted(6), nil}, {filled(6, 1), counted(1), nil}, {nil, nil, nil}, {identity(2), table(whole(1, 2), whole(3, 1)), nil},
		{table(whole(1, 1), whole(1, 0)), table(whole(maxPart, 0), whole(0, 1)), nil}, {filled(7, 2), counted(2), nil}, {filled(2, 7), counted(7), nil}, {filled(2, 3), counted(2), nil}, {table([]ratio{frac(2, 4)}), counted(1), nil}, {table(whole(1, 2), whole(1)), counted(2), nil}}
	chanceBudgets(87, 3, func(shares [][]ratio, rows [][]ratio) { list = append(list, budgetCase{shares, rows, nil}) })
	return list
}

// Arguments stay, with the room behind each list and behind each of its rows; what is answered hangs on neither.
func TestBudgetsLeaveTheirArguments(t *testing.T) {
	for _, c := range budgetArguments() {
		a, b := withRoom(c.shares), withRoom(c.rows)
		checkBudget(t, a.rows, b.rows)
		checkBudget(t, b.rows, a.rows)
		if !a.stayed() || !b.stayed() {
			t.Fatalf("%v and %v have become %v and %v", a.before, b.before, a.room, b.room)
		}
	}
}

func TestBudgetsAnswerInNewMemory(t *testing.T) {
	for _, c := range budgetArguments() {
		fresh := func(name string, answer func(shares [][]ratio, rows [][]ratio) [][]ratio) {
			t.Helper()
			a, b := withRoom(c.shares).rows, withRoom(c.rows).rows
			newMemory(t, name, ratioMark, func() [][]ratio { return answer(a, b) }, a, b)
		}
		fresh("Carried", func(shares [][]ratio, rows [][]ratio) [][]ratio { list, _ := impl.Carried(shares, rows); return list })
		for i := range c.shares {
			fresh("Parts", func(shares [][]ratio, rows [][]ratio) [][]ratio {
				list, _ := impl.Parts(shares[i], rows)
				return table(list)
			})
			fresh("Alone", func(shares [][]ratio, rows [][]ratio) [][]ratio { return impl.Alone(shares[i]) })
		}
	}
}

// One row that stands in a list more than once, and one table handed in twice, are as good as others that are alike.
func TestBudgetsOfSharedRows(t *testing.T) {
	row := whole(2, 2, 2)
	rows := table(row, row, row)
	before := copied(rows)
	checkBudget(t, rows, rows)
	checkBudget(t, counted(3), rows)
	cover := counted(3)
	checkBudget(t, cover, cover)
	checkBudget(t, table(cover[1], cover[1], cover[0], cover[1]), cover)
	if !sameRows(rows, before) || !sameRows(cover, counted(3)) {
		t.Fatal("they have changed", rows, cover)
	}
	carried, is := impl.Carried(rows, rows)
	parts, partsIs := impl.Parts(row, rows)
	if !is || !partsIs || !sameRows(carried, wholeRows(72, []int64{1, 1, 1}, []int64{1, 1, 1}, []int64{1, 1, 1})) || !slices.Equal(parts, whole(24, 24, 24)) {
		t.Fatal(carried, parts)
	}
	apart(t, "Carried and Parts", ratioMark, append(carried, parts, row)...)
	room := whole(4, 1, 9, 2, -1, math.MaxInt64)
	cut := table(room[:2], room[1:3])
	if v, is := impl.Variance(room[3:5], cut); !is || v != frac(21, 1) || !slices.Equal(room, whole(4, 1, 9, 2, -1, math.MaxInt64)) {
		t.Fatal(v, is, room)
	}
}

// The same arguments have the same answers, whatever was asked or written over in between: nothing is kept.
func TestBudgetsAnswerAlikeAgain(t *testing.T) {
	tell := func() [][]ratio {
		var all [][]ratio
		add := func(rows ...[]ratio) {
			all = append(all, copied(rows)...)
			for _, row := range rows {
				scribbled(row, frac(7777, 7777))
			}
		}
		for _, c := range budgetArguments() {
			carried, _ := impl.Carried(c.shares, c.rows)
			add(carried...)
			for _, row := range c.shares {
				parts, _ := impl.Parts(row, c.rows)
				v, _ := impl.Variance(row, c.rows)
				add(append(impl.Alone(row), parts, []ratio{v})...)
			}
		}
		return all
	}
	if first := tell(); !sameRows(first, tell()) {
		t.Fatal("another answer")
	}
}
