package tests

import (
	"math"
	"slices"
	"testing"

	"loop.example/g00069/impl"
)

// nothingOfSpread: no function of chapter 9 takes this list, whatever stands beside it.
func nothingOfSpread(t *testing.T, list []point) {
	t.Helper()
	told := list[:min(41, len(list))]
	if impl.SpreadOk(list) || impl.Weight(list) != -1 {
		t.Fatalf("%v: Weight %d", told, impl.Weight(list))
	}
	for _, pair := range [][2][]point{{list, points(0, 1)}, {points(0, 1), list}, {list, list}, {list, nil}, {evenly(40, 0, 1, 1), list}} {
		if got, is := impl.Joined(pair[0], pair[1]); is || len(got) > 0 {
			t.Fatalf("Joined of %v: %v %v", told, got, is)
		}
	}
	for _, tell := range []func([]point) (ratio, bool){impl.Mean, impl.Vary} {
		if got, is := tell(list); is || got != zero {
			t.Fatalf("Mean or Vary of %v: %v %v", told, got, is)
		}
	}
	for _, ends := range [][2]int64{{0, 0}, {-maxAt, maxAt}, {1, -1}, {math.MinInt64, math.MaxInt64}, {maxAt + 1, math.MaxInt64}} {
		if got := impl.Inside(list, ends[0], ends[1]); got != -1 {
			t.Fatalf("Inside(%v, %v): %d", told, ends, got)
		}
	}
	for _, part := range someParts() {
		if low, high, is := impl.Cover(list, part); is || low != 0 || high != 0 {
			t.Fatalf("Cover(%v, %v): %d %d %v", told, part, low, high, is)
		}
	}
}

func TestLatticesRefuseWhatIsNoSpread(t *testing.T) {
	for _, list := range noSpreads() {
		nothingOfSpread(t, list)
	}
}

func latticeEdges() []int64 {
	return append(edgeNumbers(), -maxAt-1, -maxAt, 1-maxAt, maxAt-1, maxAt, maxAt+1, maxWeight-2, maxWeight-1, maxWeight, maxWeight+1, -maxWeight)
}

// Promise 21 for chapter 9: each edge number as At and as Weight, at each place of spreads of each size.
func TestLatticesOfEveryNumber(t *testing.T) {
	taken, refused := 0, 0
	for _, n := range []int{1, 2, 3, 40} {
		for i := range n {
			for _, number := range latticeEdges() {
				far, heavy, both := evenly(n, -20, 1, 1), evenly(n, -20, 1, 1), evenly(n, -20, 1, 1)
				far[i].At, heavy[i].Weight = number, number
				both[i] = point{At: number, Weight: number}
				for _, list := range [][]point{far, heavy, both} {
					if checkLattice(t, list) {
						taken++
					} else {
						refused++
						nothingOfSpread(t, list)
					}
					checkJoined(t, list, points(-3, 2, 4, 1))
					checkJoined(t, points(-1, 1), list)
				}
			}
		}
	}
	if taken < 100 || refused < 1000 {
		t.Error("too few", taken, refused)
	}
}

// Two points whose numbers are both at the edges, the least and the greatest int64 beside each other among them.
func TestLatticesOfEveryPair(t *testing.T) {
	for _, one := range latticeEdges() {
		for _, other := range latticeEdges() {
			for _, list := range [][]point{points(0, one, 1, other), points(one, 1, other, 1), points(one, other), points(0, one, 1, other, 2, 3), points(0, one, 1, one, 2, other)} {
				if !checkLattice(t, list) {
					nothingOfSpread(t, list)
				}
			}
		}
	}
}

// Parts that are no fraction, and each pair of edge numbers as one, right or wrong, beside spreads of each kind.
func TestCoverAtEveryPart(t *testing.T) {
	lists := [][]point{points(0, 1), points(-4, maxWeight), evenly(3, -1, 1, 1), points(-maxAt, 999999, maxAt, 1), points(2, 1, 3, 2, 4, 3, 5, 2, 6, 1), points(1, 1, 0, 1), nil}
	for _, list := range lists {
		for _, part := range anyRatios() {
			checkCoverOf(t, list, part)
		}
		for _, part := range append(strangeRatios(), frac(-1, 1), frac(-1, maxPart), frac(-maxPart, 1), frac(2, 1), frac(maxPart, maxPart-1), frac(maxPart, 1)) {
			if low, high, is := impl.Cover(list, part); is || low != 0 || high != 0 {
				t.Fatalf("Cover(%v, %v): %d %d %v", list, part, low, high, is)
			}
		}
	}
}

func pointsWithRoom(lists ...[]point) roomy[point] {
	return roomyRows(lists, points(7, 7777, 0, 1, -maxAt, 5, math.MaxInt64, math.MinInt64, 1000, 1))
}

func pointMark(i int) point { return point{At: 7777, Weight: 7777000 + int64(i)} }

// latticeArguments are pairs that can be joined, such that can't, and such of which one or both are no spread.
func latticeArguments() [][2][]point {
	list := [][2][]point{{nil, nil}, {points(0, 1), nil}, {{}, evenly(3, 1, 1, 1)}, {points(3, 1, 2, 1), points(0, 1)}, {points(0, 1), points(0, 0)}, {evenly(41, 0, 1, 1), evenly(2, 0, 1, 1)}}
	for _, c := range joinedCases() {
		list = append(list, [2][]point{c.a, c.b})
	}
	chancePairs(93, 40, func(a []point, b []point) { list = append(list, [2][]point{a, b}) })
	return list
}

// Arguments stay, with the room behind them; what is answered hangs on neither.
func TestLatticesLeaveTheirArguments(t *testing.T) {
	for _, pair := range latticeArguments() {
		room := pointsWithRoom(pair[0], pair[1])
		for _, list := range room.rows {
			checkLattice(t, list)
			for _, other := range room.rows {
				checkJoined(t, list, other)
			}
		}
		if !room.stayed() {
			t.Fatalf("%v has become %v", room.before, room.room)
		}
	}
}

func TestLatticesAnswerInNewMemory(t *testing.T) {
	for _, pair := range latticeArguments() {
		rows := pointsWithRoom(pair[0], pair[1]).rows
		newMemory(t, "Joined", pointMark, func() [][]point {
			var all [][]point
			for _, list := range rows {
				for _, other := range rows {
					joined, _ := impl.Joined(list, other)
					all = append(all, joined)
				}
			}
			return all
		}, rows)
	}
}

// Where nothing is answered, nothing stands in the room behind the answer either.
func TestJoinedRefusesWithNothingBehind(t *testing.T) {
	for _, pair := range latticeArguments() {
		got, is := impl.Joined(pair[0], pair[1])
		if !is && slices.ContainsFunc(got[:cap(got)], func(p point) bool { return p != point{} }) {
			t.Fatalf("Joined(%v, %v): behind it %v", pair[0], pair[1], got[:cap(got)])
		}
	}
}

// Two lists that share memory, and one that is handed in twice, are as good as others that are alike.
func TestLatticesOfSharedPoints(t *testing.T) {
	room := points(1, 1, 2, 2, 3, 3, 4, 4, 9, 5)
	before := slices.Clone(room)
	for i := range room {
		for k := i; k < len(room); k++ {
			checkLattice(t, room[i:k])
			checkJoined(t, room[i:k], room[i:k])
			checkJoined(t, room, room[i:k])
			checkJoined(t, room[i:k], room[:i+1])
		}
	}
	if !slices.Equal(room, before) {
		t.Fatal("changed", room)
	}
}

// The same arguments have the same answers, whatever was asked or written over in between: nothing is kept.
func TestLatticesAnswerAlikeAgain(t *testing.T) {
	tell := func() []any {
		var all []any
		for _, pair := range latticeArguments() {
			joined, is := impl.Joined(pair[0], pair[1])
			for _, list := range [][]point{pair[0], pair[1], slices.Clone(joined)} {
				mean, meanIs := impl.Mean(list)
				vary, varyIs := impl.Vary(list)
				low, high, coverIs := impl.Cover(list, frac(2, 3))
				all = append(all, impl.SpreadOk(list), impl.Weight(list), impl.Inside(list, -2, 3), mean, meanIs, vary, varyIs, low, high, coverIs)
			}
			for _, p := range joined {
				all = append(all, p)
			}
			all = append(all, is)
			scribbled(joined, pointMark(3))
		}
		return all
	}
	if first := tell(); !slices.Equal(first, tell()) {
		t.Fatal("another answer")
	}
}
