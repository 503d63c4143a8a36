package tests

import (
	"math"
	"slices"
	"testing"

	"loop.example/g00069/impl"
)

// strangeRatios are wrong ones, and such with the least and the greatest int64 among their parts.
func strangeRatios() []ratio {
	list := wrongRatios()
	for _, edge := range []int64{math.MinInt64, math.MinInt64 + 1, math.MaxInt64 - 1, math.MaxInt64} {
		for _, other := range edgeNumbers() {
			list = append(list, frac(edge, other), frac(other, edge))
		}
	}
	return list
}

// nothingOfTable: no function of chapter 3 takes rows, whatever stands beside it.
func nothingOfTable(t *testing.T, rows [][]ratio) {
	t.Helper()
	if impl.TableOk(rows) || impl.Rank(rows) != -1 || len(impl.Kernel(rows)) > 0 {
		t.Fatalf("%v is taken", rows)
	}
	if got, is := impl.Echelon(rows); is || len(got) > 0 {
		t.Fatalf("Echelon(%v): %v %v", rows, got, is)
	}
	columns := 1
	if len(rows) > 0 {
		columns = max(1, min(6, len(rows[0])))
	}
	fit := filled(columns, 2)
	if got, is := impl.Times(rows, fit); is || len(got) > 0 {
		t.Fatalf("Times(%v, %v): %v %v", rows, fit, got, is)
	}
	fit = filled(1, max(1, min(6, len(rows))))
	if got, is := impl.Times(fit, rows); is || len(got) > 0 {
		t.Fatalf("Times(%v, %v): %v %v", fit, rows, got, is)
	}
	for _, n := range []int{len(rows), columns} {
		if got, is := impl.Solved(rows, make0(n)); is || len(got) > 0 {
			t.Fatalf("Solved(%v) with %d: %v %v", rows, n, got, is)
		}
	}
}

// Promise 21 for chapter 3: a fraction that is not right, anywhere in an argument.
func TestLinearRefusesWhatIsNotRight(t *testing.T) {
	for _, wrong := range strangeRatios() {
		if isExact(wrong) {
			t.Fatal(wrong)
		}
		for _, size := range [][2]int{{1, 1}, {2, 2}, {3, 2}, {2, 3}, {5, 5}, {6, 6}} {
			for i := range size[0] {
				for k := range size[1] {
					rows := make0Rows(size[0], size[1])
					rows[i][k] = wrong
					nothingOfTable(t, rows)
				}
			}
		}
		for n := 1; n <= 5; n++ {
			for i := range n {
				right := make0(n)
				if got, is := impl.Solved(identity(n), right); !is || !slices.Equal(got, right) {
					t.Fatalf("Solved of %d ones: %v %v", n, got, is)
				}
				right[i] = wrong
				if got, is := impl.Solved(identity(n), right); is || len(got) > 0 {
					t.Fatalf("Solved of %d ones, right %v: %v %v", n, right, got, is)
				}
			}
		}
	}
	for _, rows := range noTables() {
		nothingOfTable(t, rows)
		checkTable(t, rows)
	}
}

func make0Rows(n int, m int) [][]ratio {
	rows := make([][]ratio, n)
	for i := range rows {
		rows[i] = make0(m)
	}
	return rows
}

// Each pair of edge numbers as one fraction of a small table, right or wrong.
func TestLinearAtEveryArgument(t *testing.T) {
	for _, r := range anyRatios() {
		for _, rows := range [][][]ratio{
			{{r}}, {{r, frac(2, 1)}}, {{frac(2, 1)}, {r}}, {{frac(2, 1), r}, {frac(-1, 3), frac(1, 1)}},
			{{r, frac(1, 1)}, {frac(1, 1), r}}, {{frac(0, 1), r}, {r, frac(1, 2)}}, {{frac(1, 1), r}, {r, r}},
		} {
			checkTable(t, rows)
			checkEchelon(t, rows)
			checkTimes(t, rows, rows)
			checkTimes(t, rows, table(whole(3, -1), whole(1, 2)))
			checkTimes(t, table(whole(1, 2)), rows)
			checkSolved(t, rows, rows[0])
			checkSolved(t, rows, whole(1, -1)[:len(rows)])
			checkSolved(t, table(whole(1, 3), whole(2, 5))[:len(rows)], rows[len(rows)-1])
		}
	}
}

func withRoom(rows [][]ratio) roomy[ratio] {
	return roomyRows(rows, []ratio{frac(7, 1), zero, frac(-1, 2), frac(math.MinInt64, math.MaxInt64), frac(2, 4), frac(9, 1), frac(0, 1)})
}

// linearArguments are tables whose answers are told, and such as are refused at the start or on the way.
func linearArguments() [][][]ratio {
	list := append(noTables(), filled(2, 2), filled(5, 5), filled(6, 6), filled(3, 5), identity(5), identity(6),
		table(whole(0, 1), whole(1, 0)), table(whole(0, 0, 3), whole(0, 2, 0), whole(1, 0, 0)), table(whole(4)),
		table(whole(2, 1), whole(4, 2)), table(whole(2, 1), whole(4, maxPart)), table(whole(0, 0), whole(0, 0)),
		table(whole(2, 1, 0), whole(0, 1, maxPart), whole(0, 3, 1)), table([]ratio{frac(3, 1), frac(2, 4)}, whole(1, 2)))
	chanceTables(37, 5, func(rows [][]ratio) { list = append(list, rows) })
	return list
}

// Arguments stay, with the room behind the list and behind each of its rows; what is answered hangs on neither.
func TestLinearLeavesItsArguments(t *testing.T) {
	rights := [][]ratio{nil, whole(5), whole(1, 2), whole(3, -1, 4), whole(1, 2, 3, 4, 5), whole(1, 2, 3, 4, 5, 6), {zero, frac(2, 4)}}
	others := [][][]ratio{nil, filled(2, 3), filled(5, 1), filled(6, 6), identity(3)}
	for _, rows := range linearArguments() {
		a := withRoom(rows)
		checkTable(t, a.rows)
		checkEchelon(t, a.rows)
		for _, right := range rights {
			b := withRoom(table(right))
			checkSolved(t, a.rows, b.rows[0])
			if !b.stayed() {
				t.Fatalf("Solved of %v left %v", b.before, b.room)
			}
		}
		for _, other := range others {
			b := withRoom(other)
			checkTimes(t, a.rows, b.rows)
			checkTimes(t, b.rows, a.rows)
			if !b.stayed() {
				t.Fatalf("Times of %v left %v", b.before, b.room)
			}
		}
		if !a.stayed() {
			t.Fatalf("%v has become %v", a.before, a.room)
		}
	}
}

func ratioMark(i int) ratio { return frac(int64(i), 7777) }

func TestLinearAnswersAreNewMemory(t *testing.T) {
	check := func(name string, answer func() [][]ratio, arguments ...[][]ratio) {
		t.Helper()
		newMemory(t, name, ratioMark, answer, arguments...)
	}
	for _, rows := range linearArguments() {
		a := withRoom(rows).rows
		check("Echelon", func() [][]ratio { e, _ := impl.Echelon(a); return e }, a)
		b := withRoom(rows).rows
		check("Kernel", func() [][]ratio { return impl.Kernel(b) }, b)
		for _, other := range [][][]ratio{identity(1), identity(2), identity(3), identity(5), identity(6), filled(2, 3)} {
			a, b := withRoom(rows).rows, withRoom(other).rows
			check("Times", func() [][]ratio { p, _ := impl.Times(a, b); return p }, a, b)
			c, d := withRoom(other).rows, withRoom(rows).rows
			check("Times", func() [][]ratio { p, _ := impl.Times(c, d); return p }, c, d)
			e, f := withRoom(rows).rows, withRoom(other).rows
			check("Solved", func() [][]ratio { x, _ := impl.Solved(e, f[0]); return table(x) }, e, f)
		}
	}
}

// One row that stands in a list more than once, and one table handed in twice, are as good as others that are alike.
func TestLinearOfSharedRows(t *testing.T) {
	row := whole(2, 3, 4)
	rows := table(row, row, whole(1, 1, 0), row)
	before := copied(rows)
	checkEchelon(t, rows)
	e, is := impl.Echelon(rows)
	if !is || !sameRows(e, table(whole(1, 0, -4), whole(0, 1, 4), whole(0, 0, 0), whole(0, 0, 0))) {
		t.Fatal(e)
	}
	square := table(row, row, row)
	checkTimes(t, square, square)
	checkSolved(t, square, row)
	checkSolved(t, identity(3), row)
	if !sameRows(rows, before) {
		t.Fatal("the rows have changed", rows)
	}
	apart(t, "Echelon", ratioMark, append(e, row)...)
	room := whole(1, 2, 0, 1, 5)
	cut := table(room[:2], room[2:4])
	x, is := impl.Solved(cut, room[3:])
	if !is || !slices.Equal(x, whole(-9, 5)) || !slices.Equal(room, whole(1, 2, 0, 1, 5)) {
		t.Fatal(x, is, room)
	}
}

// The same arguments have the same answers, whatever was asked in between: nothing is kept.
func TestLinearAnswersAlikeAgain(t *testing.T) {
	tell := func() [][]ratio {
		var all [][]ratio
		chanceTables(38, 20, func(rows [][]ratio) {
			e, _ := impl.Echelon(rows)
			p, _ := impl.Times(rows, rows)
			x, is := impl.Solved(rows, rows[0])
			all = append(append(append(all, e...), p...), impl.Kernel(rows)...)
			all = append(all, x, whole(impl.Rank(rows)))
			if is != (len(x) > 0) {
				t.Fatal(rows, x, is)
			}
		})
		return all
	}
	if !sameRows(tell(), tell()) {
		t.Fatal("another answer")
	}
}
