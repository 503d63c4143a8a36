package tests

import (
	"math"
	"slices"
	"testing"

	"loop.example/g00069/impl"
)

// Promise 21 for chapter 4: what is no dimension, anywhere in an argument.
func TestDimensionsRefuseWhatIsNone(t *testing.T) {
	for _, wrong := range wrongDims() {
		if impl.DimOk(wrong) || impl.ShowDim(wrong) != "" {
			t.Fatalf("%v is taken", wrong)
		}
		for _, other := range append(wrongDims(), nought(), dim(1, -1, 0, 2, 0), dim(-9, 9, -9, 9, -9)) {
			if got := impl.DimTimes(wrong, other); len(got) > 0 {
				t.Fatalf("DimTimes(%v, %v): %v", wrong, other, got)
			}
			if got := impl.DimTimes(other, wrong); len(got) > 0 {
				t.Fatalf("DimTimes(%v, %v): %v", other, wrong, got)
			}
		}
		for _, n := range steepNumbers() {
			if got := impl.DimPower(wrong, n); len(got) > 0 {
				t.Fatalf("DimPower(%v, %d): %v", wrong, n, got)
			}
		}
		for n := 1; n <= 6; n++ {
			for place := range n {
				nothingOfDims(t, n, place, wrong)
			}
		}
	}
}

// nothingOfDims: what is wrong at one place among n dimensions is not taken, whatever it is raised to.
func nothingOfDims(t *testing.T, n int, place int, wrong []int64) {
	t.Helper()
	list := times(n, dim(1, 0, 0, 0, 0))
	list[place] = wrong
	if got, is := impl.Groups(list); is || len(got) > 0 {
		t.Fatalf("Groups(%v): %v %v", list, got, is)
	}
	for _, power := range []int64{0, 1, -1, 2, math.MinInt64, math.MaxInt64} {
		powers := make([]int64, n)
		powers[place] = power
		if got := impl.Alike(list, powers); len(got) > 0 {
			t.Fatalf("Alike(%v, %v): %v", list, powers, got)
		}
	}
}

// Each function at dimensions and others, at lists of each size, and at numbers of each kind.
func TestDimensionsAtEveryArgument(t *testing.T) {
	list := append(append(everyPower(), wrongDims()...), nought())
	for i, d := range list {
		checkDim(t, d)
		checkDimTimes(t, d, d)
		for n := range 8 {
			all := times(2, list[(7*i+1)%len(list)])
			all = append(all, times(n, d)...)[1 : n+2]
			checkGroups(t, all[:n])
			checkGroups(t, all)
			for _, power := range []int64{0, 1, -1, 2, -3, 9} {
				powers := slices.Repeat([]int64{power, -power}, 4)
				checkAlike(t, all, powers[:n])
				checkAlike(t, all, powers[:n+1])
				checkAlike(t, all[:n], powers[:n+1])
			}
		}
		for _, n := range steepNumbers() {
			checkDimPower(t, d, n)
			checkAlike(t, dims(d), []int64{n})
			checkAlike(t, dims(d, d), []int64{n, -n})
			checkAlike(t, dims(nought(), d), []int64{n, 1})
		}
	}
}

func dimsWithRoom(list [][]int64) roomy[int64] {
	return roomyRows(list, dim(3, 0, -2, math.MinInt64, 10, 0, math.MaxInt64, 1, 0))
}

func dimMark(i int) int64 { return 7777000 + int64(i) }

// dimArguments are lists of dimensions whose answers are told, and such as are refused at the start or on the way.
func dimArguments() [][][]int64 {
	list := append(tooGreatDims(), nil, dims(nil), times(6, nought()), times(7, nought()), times(3, dim(1, 2, 3, 4, 5)), times(8, dim(0, 0, 0, 0, 1)),
		dims(dim(2, 0, 0, 0, 0), dim(3, 0, 0, 0, 0)), dims(dim(1, 0, 0, 0, 0), dim(0, 1, 0, 0, 0)), dims(dim(9, 0, 0, 0, 0), dim(9, 0, 0, 0, 0), dim(-9, 0, 0, 0, 0)),
		dims(dim(1, 0, -1, 0, 0), dim(10, 0, 0, 0, 0)), dims(dim(1, 0, -1, 0, 0), dim(1, 0, 0, 0)), dims(dim(1, 0, -1, 0, 0, 0), dim(1, 0, 0, 0, 0)),
		dims(dim(math.MinInt64, 0, 0, 0, 0), dim(math.MaxInt64, 0, 0, 0, 0)))
	chanceDims(43, 40, func(dimensions [][]int64) { list = append(list, dimensions) })
	return list
}

func somePowers() [][]int64 {
	return dims(nil, dim(1), dim(0), dim(1, -1), dim(2, 1), dim(0, 0, 1), dim(1, 1, 1), dim(10, 0, 1), dim(1, -1, 1, -1, 1), dim(0, 0, 0, 0, 0, 0),
		dim(1, 0, -1, 2, 0, 1), dim(1, 1, 1, 1, 1, 1, 1), dim(math.MinInt64, math.MaxInt64))
}

// Arguments stay, with the room behind the list and behind each of its rows; what is answered hangs on neither.
func TestDimensionsLeaveTheirArguments(t *testing.T) {
	for _, list := range dimArguments() {
		a := dimsWithRoom(list)
		checkGroups(t, a.rows)
		for i, d := range a.rows {
			checkDim(t, d)
			checkDimTimes(t, d, a.rows[len(a.rows)-1-i])
			checkDimPower(t, d, 2)
			checkDimPower(t, d, -1)
			checkDimPower(t, d, math.MaxInt64)
		}
		for _, powers := range somePowers() {
			b := dimsWithRoom(dims(powers))
			checkAlike(t, a.rows, b.rows[0])
			if !b.stayed() {
				t.Fatalf("Alike by %v left %v", b.before, b.room)
			}
		}
		if !a.stayed() {
			t.Fatalf("%v has become %v", a.before, a.room)
		}
	}
}

func TestDimensionAnswersAreNewMemory(t *testing.T) {
	check := func(name string, answer func() [][]int64, arguments ...[][]int64) {
		t.Helper()
		newMemory(t, name, dimMark, answer, arguments...)
	}
	for _, list := range dimArguments() {
		a := dimsWithRoom(list).rows
		check("Groups", func() [][]int64 { groups, _ := impl.Groups(a); return groups }, a)
		for _, d := range list {
			for _, n := range []int64{0, 1, -1, 2, 9} {
				b := dimsWithRoom(dims(d)).rows
				check("DimPower", func() [][]int64 { return dims(impl.DimPower(b[0], n)) }, b)
			}
			for _, other := range dims(nought(), dim(1, 0, -1, 0, 0), dim(10, 0, 0, 0, 0), d) {
				c := dimsWithRoom(dims(d, other)).rows
				check("DimTimes", func() [][]int64 { return dims(impl.DimTimes(c[0], c[1])) }, c)
			}
		}
		for _, powers := range append(somePowers(), make([]int64, len(list)), slices.Repeat([]int64{1}, len(list))) {
			e, f := dimsWithRoom(list).rows, dimsWithRoom(dims(powers)).rows
			check("Alike", func() [][]int64 { return dims(impl.Alike(e, f[0])) }, e, f)
		}
	}
}

// One row that stands in a list more than once, rows that overlap, and one list handed in twice, are as good as others
// that are alike.
func TestDimensionsOfSharedRows(t *testing.T) {
	room := dim(1, 0, -1, 0, 0, 2, 0, 0, -3)
	before := slices.Clone(room)
	a, b := room[:5], room[4:]
	list := dims(a, b, a, a)
	checkGroups(t, list)
	checkAlike(t, list, a[:4])
	checkAlike(t, dims(a, b, a, b, a), a)
	checkDimTimes(t, a, a)
	checkDimTimes(t, a, b)
	checkDimTimes(t, b, a)
	groups, is := impl.Groups(list)
	if !is || !sameRows(groups, dims(dim(-1, 0, 1, 0), dim(-1, 0, 0, 1))) || !slices.Equal(room, before) {
		t.Fatal(groups, is, room)
	}
	apart(t, "Groups", dimMark, append(groups, room)...)
}

// The same arguments have the same answers, whatever was asked in between: nothing is kept.
func TestDimensionsAnswerAlikeAgain(t *testing.T) {
	tell := func() [][]int64 {
		var all [][]int64
		for _, list := range dimArguments() {
			groups, is := impl.Groups(list)
			if !is && len(groups) > 0 {
				t.Fatal(list, groups)
			}
			all = append(all, groups...)
			for i, d := range list {
				all = append(all, impl.DimTimes(d, list[0]), impl.DimPower(d, int64(i)-2), []int64(nil))
			}
			for _, powers := range somePowers() {
				all = append(all, impl.Alike(list, powers))
			}
		}
		return all
	}
	if !sameRows(tell(), tell()) {
		t.Fatal("another answer")
	}
}
