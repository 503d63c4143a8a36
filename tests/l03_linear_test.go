package tests

import (
	"math/big"
	"testing"

	"loop.example/g00069/impl"
)

// filled is a table of n rows of m numbers, no two of them alike; without rows or numbers where n or m is 0.
func filled(n int, m int) [][]ratio {
	rows := make([][]ratio, n)
	for i := range rows {
		for k := range m {
			rows[i] = append(rows[i], frac(int64(7*i+k+1), 1))
		}
	}
	return rows
}

func identity(n int) [][]ratio {
	rows := make([][]ratio, n)
	for i := range rows {
		rows[i] = make([]ratio, n)
		for k := range rows[i] {
			rows[i][k] = frac(0, 1)
		}
		rows[i][i] = frac(1, 1)
	}
	return rows
}

// noTables are all lists of rows of a wrong size, and such whose rows are of unlike length.
func noTables() [][][]ratio {
	list := [][][]ratio{nil, {}, {nil}, {{}}, {{}, {}}, {nil, whole(1)}, {whole(1), nil}, {whole(1), {}}, {{}, whole(1)},
		filled(1, 100000), filled(100000, 1), filled(7, 7), filled(0, 0)}
	for n := range 8 {
		list = append(list, filled(n, 0), filled(n, 7), filled(7, n), filled(n, 8), filled(8, n))
	}
	for n := 2; n <= 6; n++ {
		for i := range n {
			for m := range 8 {
				if m != 3 {
					rows := filled(n, 3)
					rows[i] = filled(1, max(m, 1))[0][:m]
					list = append(list, rows)
				}
			}
		}
	}
	return list
}

func checkTable(t *testing.T, rows [][]ratio) {
	t.Helper()
	if _, is := exactRows(rows); impl.TableOk(rows) != is {
		t.Fatalf("TableOk(%v): %v", rows, !is)
	}
}

// checkEchelon holds Echelon, Rank and Kernel against the same steps in numbers of any length, and tells what these
// come to; and whether it is a table of which none of them is too great.
func checkEchelon(t *testing.T, rows [][]ratio) (exactEnd, bool) {
	t.Helper()
	end, is := exactEchelon(rows)
	is = is && !end.tooGreat
	var want, kernel [][]ratio
	rank := int64(-1)
	if is {
		want, _ = fittedRows(end.rows)
		kernel, rank = end.kernel(), end.rank()
	}
	if got, gotIs := impl.Echelon(rows); gotIs != is || !sameRows(got, want) {
		t.Fatalf("Echelon(%v): %v %v, not %v %v", rows, got, gotIs, want, is)
	}
	if got := impl.Rank(rows); got != rank {
		t.Fatalf("Rank(%v): %d, not %d", rows, got, rank)
	}
	if got := impl.Kernel(rows); !sameRows(got, kernel) {
		t.Fatalf("Kernel(%v): %v, not %v", rows, got, kernel)
	}
	return end, is
}

func checkTimes(t *testing.T, a [][]ratio, b [][]ratio) bool {
	t.Helper()
	want, wantIs := exactTimes(a, b)
	if !wantIs {
		want = nil
	}
	if got, is := impl.Times(a, b); is != wantIs || !sameRows(got, want) {
		t.Fatalf("Times(%v, %v): %v %v, not %v %v", a, b, got, is, want, wantIs)
	}
	return wantIs
}

func checkSolved(t *testing.T, rows [][]ratio, right []ratio) bool {
	t.Helper()
	want, wantIs := exactSolved(rows, right)
	got, is := impl.Solved(rows, right)
	if is != wantIs || !sameRows(table(got), table(want)) {
		t.Fatalf("Solved(%v, %v): %v %v, not %v %v", rows, right, got, is, want, wantIs)
	}
	if is {
		checkSolves(t, rows, got, right)
	}
	return is
}

// checkSolves: each row times x is right's element.
func checkSolves(t *testing.T, rows [][]ratio, x []ratio, right []ratio) {
	t.Helper()
	for i, row := range rows {
		sum := new(big.Rat)
		for k, r := range row {
			sum.Add(sum, new(big.Rat).Mul(big.NewRat(r.N, r.D), big.NewRat(x[k].N, x[k].D)))
		}
		if r, is := fitted(sum); !is || r != right[i] {
			t.Fatalf("%v times %v: row %d is %v, not %v", rows, x, i, sum, right[i])
		}
	}
}

func TestTableOkAtTheEdges(t *testing.T) {
	for n := range 9 {
		for m := range 9 {
			if got := impl.TableOk(filled(n, m)); got != (n >= 1 && n <= 6 && m >= 1 && m <= 6) {
				t.Errorf("TableOk of %d rows of %d: %v", n, m, got)
			}
		}
	}
	for _, rows := range noTables() {
		if impl.TableOk(rows) {
			t.Errorf("TableOk(%v)", rows)
		}
	}
	chanceTables(31, 20, func(rows [][]ratio) {
		if !impl.TableOk(rows) {
			t.Fatalf("%v is refused", rows)
		}
	})
}

func TestTimesTells(t *testing.T) {
	half, third := frac(1, 2), frac(-1, 3)
	for _, c := range []struct {
		a, b [][]ratio
		want [][]ratio
	}{
		{table(whole(2, 4, 2), whole(1, 2, 3)), table(whole(1), whole(1), whole(1)), table(whole(8), whole(6))},
		{table(whole(1, 2), whole(3, 4)), table(whole(5, 6), whole(7, 8)), table(whole(19, 22), whole(43, 50))},
		{table(whole(5, 6), whole(7, 8)), table(whole(1, 2), whole(3, 4)), table(whole(23, 34), whole(31, 46))},
		{table(whole(3)), table(whole(-4)), table(whole(-12))}, {table(whole(0)), table(whole(maxPart)), table(whole(0))},
		{table([]ratio{half, third}), table([]ratio{third}, []ratio{half}), table([]ratio{third})},
		{table(whole(1, 2, 3, 4, 5, 6)), table(whole(1), whole(1), whole(1), whole(1), whole(1), whole(1)), table(whole(21))},
		{table(whole(2), whole(3)), table(whole(5, 7, 9)), table(whole(10, 14, 18), whole(15, 21, 27))},
		{identity(6), filled(6, 4), filled(6, 4)}, {filled(4, 6), identity(6), filled(4, 6)},
		// The limit is met, and passed by one.
		{table(whole(1, 1)), table(whole(maxPart-1), whole(1)), table(whole(maxPart))},
		{table(whole(1, 1)), table(whole(maxPart), whole(1)), nil}, {table(whole(-1, -1)), table(whole(maxPart), whole(1)), nil},
		// Too great is one sum on the way, or one product; the end would be right.
		{table(whole(1, 1, -1)), table(whole(maxPart), whole(maxPart), whole(maxPart)), nil},
		{table(whole(1, -1, 1)), table(whole(maxPart), whole(maxPart), whole(maxPart)), table(whole(maxPart))},
		{table(whole(-1, 1, 1)), table(whole(maxPart), whole(maxPart), whole(maxPart)), table(whole(maxPart))},
		{table(whole(40000, 40000)), table(whole(40000), whole(-40000)), nil},
		{table(whole(0, 40000, 40000)), table(whole(7), whole(40000), whole(-40000)), nil},
		{table([]ratio{frac(1, 40000), frac(1, 40000)}), table([]ratio{frac(1, 40000)}, []ratio{frac(-1, 40000)}), nil},
		// So is one number of many, the last one of all.
		{table(whole(1, 0), whole(0, 2)), table(whole(3, 0), whole(0, maxPart)), nil},
		// As many rows as the other, but not as many as its rows are long.
		{filled(2, 3), filled(2, 3), nil}, {filled(3, 2), filled(3, 2), nil}, {filled(1, 1), filled(2, 1), nil}, {filled(1, 2), filled(1, 1), nil},
		{filled(6, 6), filled(5, 6), nil}, {filled(6, 5), filled(6, 6), nil},
	} {
		if got, is := impl.Times(c.a, c.b); is != (c.want != nil) || !sameRows(got, c.want) {
			t.Errorf("Times(%v, %v): %v %v, not %v", c.a, c.b, got, is, c.want)
		}
	}
}

func TestTimesOfEachSize(t *testing.T) {
	for n := range 8 {
		for m := range 8 {
			for n2 := range 8 {
				for m2 := range 8 {
					is := checkTimes(t, filled(n, m), filled(n2, m2))
					if is != (n > 0 && n < 7 && m > 0 && m < 7 && m == n2 && m2 > 0 && m2 < 7) {
						t.Fatal(n, m, n2, m2, is)
					}
				}
			}
		}
	}
}

func TestTimesIsExact(t *testing.T) {
	told := map[bool]int{}
	var other [][]ratio
	chanceTables(32, 300, func(rows [][]ratio) {
		told[checkTimes(t, rows, other)]++
		if len(other) > 0 && len(other) >= len(rows[0]) {
			told[checkTimes(t, rows, other[:len(rows[0])])]++
		}
		other = rows
	})
	if told[true] < 500 || told[false] < 500 {
		t.Fatal("too few", told)
	}
}

func TestEchelonTells(t *testing.T) {
	for _, c := range []struct {
		rows, want, kernel [][]ratio
	}{
		{table(whole(2, 4, 2), whole(1, 2, 3)), table(whole(1, 2, 0), whole(0, 0, 1)), table(whole(-2, 1, 0))},
		{table(whole(5)), table(whole(1)), nil}, {table(whole(0)), table(whole(0)), table(whole(1))},
		{table(whole(0, 0, 0)), table(whole(0, 0, 0)), table(whole(1, 0, 0), whole(0, 1, 0), whole(0, 0, 1))},
		{table(whole(0), whole(0), whole(-3)), table(whole(1), whole(0), whole(0)), nil},
		{table([]ratio{frac(2, 3), frac(-1, 2)}), table([]ratio{frac(1, 1), frac(-3, 4)}), table([]ratio{frac(3, 4), frac(1, 1)})},
		// A column without anything that is not 0: ahead, between, behind.
		{table(whole(0, 2, 4), whole(0, 1, 3)), table(whole(0, 1, 0), whole(0, 0, 1)), table(whole(1, 0, 0))},
		{table(whole(2, 0, 4), whole(1, 0, 3)), table(whole(1, 0, 0), whole(0, 0, 1)), table(whole(0, 1, 0))},
		{table(whole(2, 4, 0), whole(1, 3, 0)), table(whole(1, 0, 0), whole(0, 1, 0)), table(whole(0, 0, 1))},
		{table(whole(0, 1, 2, 0, 3)), table(whole(0, 1, 2, 0, 3)), table(whole(1, 0, 0, 0, 0), whole(0, -2, 1, 0, 0), whole(0, 0, 0, 1, 0), whole(0, -3, 0, 0, 1))},
		// Rows that must be exchanged.
		{table(whole(0, 1), whole(1, 0)), identity(2), nil}, {table(whole(0, 0, 3), whole(0, 2, 0), whole(1, 0, 0)), identity(3), nil},
		{table(whole(0, 0), whole(0, 5)), table(whole(0, 1), whole(0, 0)), table(whole(1, 0))},
		{table(whole(0, 2, 6), whole(0, 0, 0), whole(3, 0, 9)), table(whole(1, 0, 3), whole(0, 1, 3), whole(0, 0, 0)), table(whole(-3, -3, 1))},
		// Two rows alike, and one that is the sum of two.
		{table(whole(1, 2), whole(1, 2)), table(whole(1, 2), whole(0, 0)), table(whole(-2, 1))},
		{table(whole(1, 2, 3), whole(1, 2, 3), whole(0, 1, 0)), table(whole(1, 0, 3), whole(0, 1, 0), whole(0, 0, 0)), table(whole(-3, 0, 1))},
		{table(whole(1, 2, 3), whole(4, 5, 6), whole(5, 7, 9)), table(whole(1, 0, -1), whole(0, 1, 2), whole(0, 0, 0)), table(whole(1, -2, 1))},
		// More rows than columns.
		{table(whole(1, 1), whole(1, -1), whole(2, 0), whole(0, 3)), table(whole(1, 0), whole(0, 1), whole(0, 0), whole(0, 0)), nil},
		{identity(6), identity(6), nil},
	} {
		rank := int64(len(c.rows[0]) - len(c.kernel))
		if got, is := impl.Echelon(c.rows); !is || !sameRows(got, c.want) {
			t.Errorf("Echelon(%v): %v %v, not %v", c.rows, got, is, c.want)
		}
		if got := impl.Rank(c.rows); got != rank {
			t.Errorf("Rank(%v): %d, not %d", c.rows, got, rank)
		}
		if got := impl.Kernel(c.rows); !sameRows(got, c.kernel) {
			t.Errorf("Kernel(%v): %v, not %v", c.rows, got, c.kernel)
		}
	}
}

func TestEchelonOfEachSize(t *testing.T) {
	for n := range 8 {
		for m := range 8 {
			if _, is := checkEchelon(t, filled(n, m)); is != (n > 0 && n < 7 && m > 0 && m < 7) {
				t.Fatal(n, m, is)
			}
		}
	}
	for _, rows := range noTables() {
		checkEchelon(t, rows)
	}
}

// In each of these the end would be right, so what says false is one step on the way, in just the order that is told.
func TestEchelonGoesInItsOrder(t *testing.T) {
	small := frac(1, 40000)
	// The product of small and small has a D of 40000 times 40000, what is left is a right fraction again.
	left := frac(inverse(4096, 390625), 390625)
	for _, c := range []struct {
		why  string
		rows [][]ratio
		is   bool
	}{
		{"a quotient", table([]ratio{small, frac(40000, 1)}, whole(0, 1)), false},
		{"a quotient, of the last row", table(whole(1, 0, 0), []ratio{frac(0, 1), frac(3, 1), frac(1, maxPart)}, whole(0, 0, 1)), false},
		{"a product", table([]ratio{frac(1, 1), small}, []ratio{small, left}), false},
		{"a difference", table(whole(1, maxPart), whole(1, -maxPart)), false},
		{"a difference at the limit", table(whole(1, maxPart), whole(1, 0)), true},
		{"product and difference", table(whole(1, 40000), whole(40000, 5)), false},
		{"the row above, ahead of what comes behind", table(whole(1, 40000, 0), whole(0, 1, 40000), whole(0, 0, 1)), false},
		{"the row above, a difference", table(whole(1, 1, maxPart), whole(0, 1, -maxPart), whole(0, 0, 1)), false},
		{"the row above, nothing of it", table(whole(1, 0, maxPart), whole(0, 1, -maxPart), whole(0, 0, 1)), true},
		{"a row below that will be chosen", table(whole(1, maxPart, 0), whole(-1, 1, 0), whole(0, 0, 1)), false},
		{"the last row, with others between", table(whole(1, maxPart), whole(0, 1), whole(0, 0), whole(0, 0), whole(0, 0), whole(-1, maxPart)), false},
		{"the first one there", table([]ratio{small, frac(40000, 1)}, whole(1, 0)), false},
		{"the first one there, the other one", table(whole(1, 0), []ratio{small, frac(40000, 1)}), true},
		{"the first that is not 0", table(whole(0, 1), whole(2, 0), []ratio{small, frac(40000, 1)}), true},
		{"exchanged, not put ahead", table([]ratio{frac(0, 1), small, frac(40000, 1)}, whole(0, 1, 0), whole(1, 0, 0)), true},
		{"exchanged, not put ahead, the other one", table(whole(0, 1, 0), []ratio{frac(0, 1), small, frac(40000, 1)}, whole(1, 0, 0)), false},
		{"divided first", table(whole(maxPart, maxPart), whole(maxPart, 1)), true},
		{"divided first, then times", table(whole(40000, 40000), []ratio{small, frac(7, 1)}), true},
		{"divided first, too great", table([]ratio{frac(40000, 1), small}, whole(40000, 1)), false},
		{"nothing is taken where nothing is", table(whole(1, maxPart), whole(0, maxPart)), true},
		{"a row that was chosen is not chosen again", table([]ratio{frac(1, 1), frac(2, 1), small}, []ratio{frac(0, 1), frac(0, 1), frac(40000, 1)}), true},
	} {
		end, is := checkEchelon(t, c.rows)
		if _, right := fittedRows(end.rows); is != c.is || !right {
			t.Errorf("%s: %v: %v, and at the end %v", c.why, c.rows, is, end.rows)
		}
	}
}

func TestEchelonIsExact(t *testing.T) {
	ranks, wide, tall, onTheWay := map[int64]int{}, 0, 0, 0
	chanceTables(33, 400, func(rows [][]ratio) {
		end, is := checkEchelon(t, rows)
		if _, right := fittedRows(end.rows); !is && right {
			onTheWay++
		}
		if !is {
			return
		}
		ranks[end.rank()]++
		if len(rows) < len(rows[0]) {
			wide++
		} else if len(rows) > len(rows[0]) {
			tall++
		}
	})
	for rank := int64(0); rank <= 6; rank++ {
		if ranks[rank] < 20 {
			t.Error("too few of rank", rank, ranks)
		}
	}
	if wide < 1000 || tall < 1000 || onTheWay < 100 {
		t.Error("too few", wide, tall, onTheWay)
	}
}

// Promise 3, by what it says alone: as many as there are columns, each row times each of Kernel is 0, and none of
// Kernel is made of the others.
func TestRankAndKernelHaveAsManyAsThereAreColumns(t *testing.T) {
	told := 0
	chanceTables(34, 200, func(rows [][]ratio) {
		rank, kernel := impl.Rank(rows), impl.Kernel(rows)
		if rank < 0 {
			if len(kernel) > 0 {
				t.Fatalf("%v: rank %d, and Kernel %v", rows, rank, kernel)
			}
			return
		}
		told++
		if int(rank)+len(kernel) != len(rows[0]) || int(rank) > len(rows) {
			t.Fatalf("%v: rank %d, and Kernel %v", rows, rank, kernel)
		}
		for _, x := range kernel {
			if len(x) != len(rows[0]) {
				t.Fatalf("%v: in Kernel %v", rows, x)
			}
			checkSolves(t, rows, x, make0(len(rows)))
		}
		if end, is := exactEchelon(kernel); is && end.rank() != int64(len(kernel)) {
			t.Fatalf("%v: Kernel %v hangs together", rows, kernel)
		}
	})
	if told < 1000 {
		t.Fatal("too few", told)
	}
}

func make0(n int) []ratio { return whole(make([]int64, n)...) }

// Echelon of what is one already is the same.
func TestEchelonOfEchelon(t *testing.T) {
	chanceTables(35, 100, func(rows [][]ratio) {
		once, is := impl.Echelon(rows)
		if !is {
			return
		}
		if twice, is := impl.Echelon(once); !is || !sameRows(once, twice) {
			t.Fatalf("%v: once %v, twice %v", rows, once, twice)
		}
	})
}

func TestSolvedTells(t *testing.T) {
	small := frac(1, 40000)
	for _, c := range []struct {
		rows        [][]ratio
		right, want []ratio
	}{
		{table(whole(1, 1), whole(1, -1)), whole(3, 0), []ratio{frac(3, 2), frac(3, 2)}},
		{table(whole(2)), whole(5), []ratio{frac(5, 2)}}, {table(whole(-7)), whole(0), whole(0)},
		{table(whole(0, 1), whole(1, 0)), whole(8, 9), whole(9, 8)},
		{table(whole(0, 0, 2), whole(3, 0, 0), whole(0, 5, 0)), whole(4, 9, 25), whole(3, 5, 2)},
		{identity(5), whole(1, -2, 3, -4, 5), whole(1, -2, 3, -4, 5)},
		{table(whole(2, 1, 1, 1, 1), whole(1, 2, 1, 1, 1), whole(1, 1, 2, 1, 1), whole(1, 1, 1, 2, 1), whole(1, 1, 1, 1, 2)), whole(16, 17, 18, 19, 20), whole(1, 2, 3, 4, 5)},
		// None, and more than one.
		{table(whole(1, 1), whole(1, 1)), whole(1, 2), nil}, {table(whole(1, 1), whole(1, 1)), whole(2, 2), nil},
		{table(whole(0)), whole(1), nil}, {table(whole(0)), whole(0), nil}, {table(whole(0, 0), whole(0, 0)), whole(0, 0), nil},
		{table(whole(1, 2), whole(0, 0)), whole(1, 0), nil}, {table(whole(1, 2), whole(0, 0)), whole(1, 1), nil},
		{table(whole(0, 1), whole(0, 1)), whole(1, 1), nil}, {table(whole(0, 1), whole(0, 2)), whole(1, 1), nil},
		{table(whole(1, 2, 3), whole(4, 5, 6), whole(5, 7, 9)), whole(1, 2, 3), nil},
		{table(whole(1, 2, 3), whole(4, 5, 6), whole(5, 7, 9)), whole(1, 2, 4), nil},
		{table(whole(1, 0, 0), whole(0, 1, 0), whole(0, 0, 0)), whole(1, 2, 3), nil},
		// Right is too short or too long; six of each, which are a table; not as many rows as columns.
		{table(whole(1, 1), whole(1, -1)), whole(3), nil}, {table(whole(1, 1), whole(1, -1)), whole(3, 0, 0), nil},
		{table(whole(1, 1), whole(1, -1)), nil, nil}, {table(whole(2)), whole(), nil}, {table(whole(2)), whole(1, 1), nil},
		{identity(5), whole(1, 2, 3, 4), nil}, {identity(5), whole(1, 2, 3, 4, 5, 6), nil},
		{identity(6), whole(1, 2, 3, 4, 5, 6), nil}, {identity(6), whole(1, 2, 3, 4, 5), nil}, {identity(7), whole(1, 2, 3, 4, 5, 6, 7), nil},
		{table(whole(1, 0)), whole(1), nil}, {table(whole(1, 0)), whole(1, 1), nil}, {table(whole(1), whole(1)), whole(1, 1), nil}, {table(whole(1), whole(1)), whole(1), nil},
		{table(whole(1, 0, 0), whole(0, 1, 0)), whole(1, 2), nil}, {table(whole(1, 0), whole(0, 1), whole(0, 0)), whole(1, 2, 0), nil},
		// With right's elements behind them these would be tables, but alone they are none.
		{table(whole()), whole(1), nil}, {table(nil), whole(1), nil}, {table(whole(), whole()), whole(1, 2), nil}, {nil, nil, nil}, {table(), whole(1), nil},
		{table(whole(1, 0), whole(0)), whole(1, 2), nil}, {table(whole(1), whole(0, 1)), whole(1, 2), nil},
		// Too great is x itself, or a fraction on the way to an x that would be right.
		{table([]ratio{small}), whole(40000), nil}, {table(whole(40000)), []ratio{small}, nil},
		{table([]ratio{small, frac(1, 1)}, whole(0, 1)), whole(40000, 40000), nil},
		{table(whole(1, maxPart), whole(-1, maxPart)), whole(maxPart, maxPart), nil},
		{table(whole(1, maxPart), whole(-1, maxPart)), whole(1, -1), nil},
		{table(whole(1, 0), whole(-1, 1)), whole(maxPart, 0), whole(maxPart, maxPart)},
		{table(whole(1, 0), whole(-1, 1)), whole(maxPart, 1), nil}, {table(whole(1, 0), whole(-1, 2)), whole(maxPart, 2), nil},
	} {
		if got, is := impl.Solved(c.rows, c.right); is != (c.want != nil) || !sameRows(table(got), table(c.want)) {
			t.Errorf("Solved(%v, %v): %v %v, not %v", c.rows, c.right, got, is, c.want)
		}
		checkSolved(t, c.rows, c.right)
	}
}

func TestSolvedOfEachSize(t *testing.T) {
	for n := range 8 {
		for m := range 8 {
			for size := range 8 {
				rows := filled(n, m)
				for i := range min(n, m) {
					rows[i][i] = frac(0, 1)
				}
				if is := checkSolved(t, rows, make0(size)); is && (n != m || n != size || n > 5) {
					t.Fatal(n, m, size)
				}
			}
		}
	}
}

// What is Solved solves, and is just what determinants tell.
func TestSolvedSolves(t *testing.T) {
	told, none, onTheWay := map[int]int{}, 0, 0
	var right []ratio
	chanceTables(36, 400, func(rows [][]ratio) {
		n := min(len(rows), len(rows[0]), 5)
		last := right
		right = rows[len(rows)-1]
		if len(last) < n {
			return
		}
		square := copied(rows[:n])
		for i := range square {
			square[i] = square[i][:n:n]
		}
		list, _ := exactRows(square)
		if checkSolved(t, square, last[:n]) {
			told[n]++
		} else if determinant(list).Sign() == 0 {
			none++
		} else {
			onTheWay++
		}
	})
	for n := 1; n <= 5; n++ {
		if told[n] < 30 {
			t.Error("too few of", n, "rows", told)
		}
	}
	if none < 500 || onTheWay < 500 {
		t.Error("too few", none, onTheWay)
	}
}
