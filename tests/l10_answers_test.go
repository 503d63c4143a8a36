package tests

import (
	"math"
	"math/rand"
	"slices"
	"testing"

	"loop.example/g00069/impl"
)

// nothingOfFit: neither Miss nor Normal takes these together.
func nothingOfFit(t *testing.T, curve []ratio, list []spot) {
	t.Helper()
	if got, is := impl.Miss(curve, list); is || got != zero {
		t.Fatalf("Miss(%v, %v): %v %v", curve, list, got, is)
	}
	if got, is := impl.Normal(curve, list); is || len(got) > 0 {
		t.Fatalf("Normal(%v, %v): %v %v", curve, list, got, is)
	}
}

// nothingOfSpots: no function of chapter 10 takes this list, whatever stands beside it.
func nothingOfSpots(t *testing.T, list []spot) {
	t.Helper()
	if impl.SpotsOk(list) {
		t.Fatalf("%v is taken", list)
	}
	for n := range 6 {
		nothingOfFit(t, make0(n), list)
	}
	for n := int64(-1); n <= 5; n++ {
		if got, is := impl.Fitted(list, n); is || len(got) > 0 {
			t.Fatalf("Fitted(%v, %d): %v %v", list, n, got, is)
		}
	}
}

// nothingOfCurve: no function of chapter 10 takes this curve, whatever stands beside it.
func nothingOfCurve(t *testing.T, curve []ratio) {
	t.Helper()
	for _, x := range []ratio{frac(0, 1), frac(1, 1), frac(-2, 3), zero} {
		if got, is := impl.CurveAt(curve, x); is || got != zero {
			t.Fatalf("CurveAt(%v, %v): %v %v", curve, x, got, is)
		}
	}
	for _, list := range [][]spot{spots(0, 0, 0, 0), spots(0, 1, 1, 2), make0Spots(12), nil} {
		nothingOfFit(t, curve, list)
	}
}

// Promise 21 for chapter 10: marks and curves of each size beside each other, and each n.
func TestFitsOfEachSize(t *testing.T) {
	for n := range 16 {
		list := spotsOn(n, -1, func(x int64) int64 { return 3 - x })
		if n < 2 || n > 12 {
			nothingOfSpots(t, list)
		}
		for size := range 8 {
			curve, sizeFits := filled(1, size)[0], size >= 1 && size <= 4
			if fits := checkMiss(t, curve, list); fits != (n >= 2 && n <= 12 && sizeFits) || checkNormal(t, curve, list) != fits {
				t.Fatal(n, size, fits)
			}
			if is := checkFitted(t, list, int64(size)); is && (!sizeFits || size > n) {
				t.Fatal(n, size, is)
			}
			if !sizeFits {
				nothingOfCurve(t, curve)
			}
			if checkCurveAt(t, curve, frac(1, 2)) != sizeFits {
				t.Fatal(size)
			}
		}
	}
	for _, n := range []int{13, 100, 100000} {
		nothingOfSpots(t, make0Spots(n))
		nothingOfCurve(t, make0(n))
	}
}

// The least and the greatest int64 among the numbers of a curve that is asked for.
func TestFittedOfEveryCount(t *testing.T) {
	for _, n := range append(edgeNumbers(), 5, 8, 9, 1<<32+1, 1<<32+2, 1<<33, 1<<63-4, -1<<63+3) {
		for _, list := range [][]spot{spots(0, 1, 1, 2), spotsOn(4, 0, func(x int64) int64 { return x * x }), spotsOn(12, -5, func(x int64) int64 { return x }), make0Spots(2), nil} {
			got, is := impl.Fitted(list, n)
			if (n < 1 || n > 4) && (is || len(got) > 0) || is && int64(len(got)) != n {
				t.Fatalf("Fitted(%v, %d): %v %v", list, n, got, is)
			}
			checkFitted(t, list, n)
		}
	}
}

// A number that is no fraction, at each place of marks, as X and as Y, and at each place of a curve, or as its x.
func TestFitsRefuseWhatIsNotRight(t *testing.T) {
	for _, wrong := range strangeRatios() {
		for _, n := range []int{2, 3, 12} {
			for i := range n {
				for _, list := range [][]spot{make0Spots(n), spotsOn(n, 0, func(x int64) int64 { return x })} {
					across, up, both := slices.Clone(list), slices.Clone(list), slices.Clone(list)
					across[i].X, up[i].Y = wrong, wrong
					both[i] = spot{X: wrong, Y: wrong}
					for _, list := range [][]spot{across, up, both} {
						nothingOfSpots(t, list)
					}
				}
			}
		}
		for n := 1; n <= 4; n++ {
			for p := range n {
				curve := make0(n)
				if got, is := impl.CurveAt(curve, wrong); is || got != zero {
					t.Fatalf("CurveAt(%v, %v): %v %v", curve, wrong, got, is)
				}
				curve[p] = wrong
				nothingOfCurve(t, curve)
			}
		}
	}
}

// Each pair of edge numbers as one fraction, right or wrong, as X, as Y, as a number of a curve.
func TestFitsAtEveryArgument(t *testing.T) {
	one, half := frac(1, 1), frac(-1, 2)
	for _, r := range anyRatios() {
		for _, curve := range [][]ratio{{r}, {one, r}, {r, half}, {r, r}, {half, one, r}, {one, r, half}, {r, one, half, one}, {half, half, one, r}, {r, r, r, r}} {
			for _, x := range []ratio{r, one, half, frac(0, 1), frac(3, 1), frac(maxPart, 1)} {
				checkCurveAt(t, curve, x)
			}
			checkCurve(t, curve, []spot{{X: one, Y: r}, {X: r, Y: half}})
			checkCurve(t, curve, spots(0, 1, 2, -3))
		}
		for _, rows := range [][2][]ratio{{{r, half}, {one, r}}, {{r, r}, {r, r}}, {{one, r, half}, {half, one, half}}, {{one, half, half}, {r, one, half}}, {{one, half}, {r, r}}, {{r, r}, {half, one}}, {{r, one, frac(2, 1), half}, {one, r, one, half}}} {
			list := spotsOf(rows[0], rows[1])
			checkSpots(t, list)
			for n := int64(1); n <= 4; n++ {
				checkFitted(t, list, n)
			}
			checkCurve(t, []ratio{half, one, half}, list)
			checkCurve(t, []ratio{half}, list)
		}
	}
}

// spotsWithRoom has behind each list marks that are right, and such that are not.
func spotsWithRoom(lists ...[]spot) roomy[spot] {
	behind := append(spots(7, 7, 0, 1, -3, 5), spot{}, spot{X: frac(2, 4), Y: frac(math.MinInt64, math.MaxInt64)})
	return roomyRows(lists, append(behind, spots(9, 9)...))
}

type fitArgument struct {
	curve []ratio
	list  []spot
}

// fitArguments are curves and marks whose answers are told, and such as are refused at the start or on the way.
func fitArguments() []fitArgument {
	list := []fitArgument{{nil, nil}, {whole(1), spots(0, 1)}, {make0(5), spots(0, 1, 1, 2)}, {whole(1, 2), spotsOn(13, 0, func(x int64) int64 { return x })}, {[]ratio{frac(2, 4)}, spots(0, 1, 1, 2)}, {whole(1), make([]spot, 3)}}
	for _, c := range fitCases() {
		list = append(list, fitArgument{whole(1, -2, 3, -4)[:len(list)%4+1], c.list})
	}
	for _, c := range normalCases() {
		list = append(list, fitArgument{c.curve, c.list})
	}
	chanceFits(105, 10, func(_ *rand.Rand, curve []ratio, marks []spot) { list = append(list, fitArgument{curve, marks}) })
	return list
}

// Arguments stay, with the room behind them; what is answered hangs on neither.
func TestFitsLeaveTheirArguments(t *testing.T) {
	for _, c := range fitArguments() {
		curves, lists := withRoom(table(c.curve)), spotsWithRoom(c.list)
		checkFits(t, lists.rows[0])
		checkCurve(t, curves.rows[0], lists.rows[0])
		if !curves.stayed() || !lists.stayed() {
			t.Fatalf("%v and %v have become %v and %v", curves.before, lists.before, curves.room, lists.room)
		}
	}
}

// An answer is a list of other things than marks are, so that it can share memory with a curve alone.
func TestFitsAnswerInNewMemory(t *testing.T) {
	for _, c := range fitArguments() {
		curves := withRoom(table(c.curve)).rows
		newMemory(t, "Fitted and Normal", ratioMark, func() [][]ratio {
			normal, _ := impl.Normal(curves[0], c.list)
			all := table(normal)
			for n := int64(1); n <= 4; n++ {
				curve, _ := impl.Fitted(c.list, n)
				again, _ := impl.Normal(curve, c.list)
				all = append(all, curve, again)
			}
			return all
		}, curves)
	}
}

// Where nothing is answered, nothing stands in the room behind the answer either.
func TestFitsRefuseWithNothingBehind(t *testing.T) {
	for _, c := range fitArguments() {
		answers := [][]ratio{}
		if normal, is := impl.Normal(c.curve, c.list); !is {
			answers = append(answers, normal)
		}
		for n := int64(0); n <= 5; n++ {
			if curve, is := impl.Fitted(c.list, n); !is {
				answers = append(answers, curve)
			}
		}
		for _, got := range answers {
			if slices.ContainsFunc(got[:cap(got)], func(r ratio) bool { return r != zero }) {
				t.Fatalf("%v and %v: behind it %v", c.curve, c.list, got[:cap(got)])
			}
		}
	}
}

// Two lists that share memory, and one mark that is there more than once, are as good as others that are alike.
func TestFitsOfSharedSpots(t *testing.T) {
	room, numbers := spots(0, 1, 1, 2, 1, 2, 2, 5, 3, 10, 0, 1), whole(1, 0, 1, 0, 0)
	before := slices.Clone(room)
	for i := range room {
		for k := i; k <= len(room); k++ {
			checkFits(t, room[i:k])
			for p := range numbers {
				checkCurve(t, numbers[p:], room[i:k])
				checkCurve(t, numbers[:p], room[i:k])
			}
		}
	}
	if !slices.Equal(room, before) || !slices.Equal(numbers, whole(1, 0, 1, 0, 0)) {
		t.Fatal("changed", room, numbers)
	}
}

// The same arguments have the same answers, whatever was asked or written over in between: nothing is kept.
func TestFitsAnswerAlikeAgain(t *testing.T) {
	tell := func() []any {
		var all []any
		add := func(row []ratio, is bool) {
			for _, r := range row {
				all = append(all, r)
			}
			all = append(all, is)
			scribbled(row, frac(7777, 7777))
		}
		for _, c := range fitArguments() {
			miss, missIs := impl.Miss(c.curve, c.list)
			at, atIs := impl.CurveAt(c.curve, frac(-2, 3))
			all = append(all, impl.SpotsOk(c.list), miss, missIs, at, atIs)
			add(impl.Normal(c.curve, c.list))
			for n := int64(1); n <= 4; n++ {
				add(impl.Fitted(c.list, n))
			}
		}
		return all
	}
	if first := tell(); !slices.Equal(first, tell()) {
		t.Fatal("another answer")
	}
}
