package tests

import (
	"math"
	"math/rand"
	"slices"
	"testing"

	"loop.example/g00069/impl"
)

// nothingOfClaims: no function of chapter 11 takes these claims, whatever stands beside them.
func nothingOfClaims(t *testing.T, list []interval) {
	t.Helper()
	if got, deep := impl.Agreed(list); got != noInterval || deep != -1 {
		t.Fatalf("Agreed(%v): %v %d", list, got, deep)
	}
	for _, v := range []ratio{frac(0, 1), frac(1, 2), frac(-maxPart, 1), zero} {
		if got := impl.Deep(list, v); got != -1 {
			t.Fatalf("Deep(%v, %v): %d", list, v, got)
		}
	}
}

// nothingOfNumbers: no function of chapter 11 takes these numbers, whatever stands beside them.
func nothingOfNumbers(t *testing.T, list []ratio) {
	t.Helper()
	if got, is := impl.Middle(list); is || got != zero {
		t.Fatalf("Middle(%v): %v %v", list, got, is)
	}
	if got, is := impl.Spread(list); is || got != zero {
		t.Fatalf("Spread(%v): %v %v", list, got, is)
	}
	for _, times := range someTimes() {
		if got := impl.Outside(list, times); len(got) > 0 {
			t.Fatalf("Outside(%v, %d): %v", list, times, got)
		}
	}
}

// Promise 21 for chapter 11: 1 to 12 of each are taken, and no other number of them.
func TestAgreementsOfEachSize(t *testing.T) {
	for n := range 20 {
		list, numbers := claimsOn(n, -3, 1, 2), countedTo(n)
		if n < 1 || n > 12 {
			nothingOfClaims(t, list)
			nothingOfNumbers(t, numbers)
		} else if impl.Deep(list, frac(-3, 1)) != 1 || checkAgreed(t, list) != int64(min(n, 3)) || !checkMiddle(t, numbers) || !checkSpreadOf(t, numbers) || checkOutside(t, numbers, 0) != n-n%2 {
			t.Fatal(n)
		}
		checkClaims(t, list)
		checkNumbers(t, numbers)
	}
	for _, n := range []int{13, 24, 100, 100000} {
		nothingOfClaims(t, claimsOn(n, 0, 0, 1))
		nothingOfClaims(t, make([]interval, n))
		nothingOfNumbers(t, make0(n))
		nothingOfNumbers(t, make([]ratio, n))
	}
}

// The least and the greatest int64 as times.
func TestOutsideOfEveryTimes(t *testing.T) {
	for _, times := range append(edgeNumbers(), 99, 100, 101, 102, 1<<32+5, 1<<33, -100, -101, math.MaxInt64-99, math.MinInt64+100) {
		for _, list := range [][]ratio{whole(7), whole(1, 1, 5, 1), whole(8, 0, 2, 1, 3), make0(12), whole(-maxPart, 0, maxPart), {frac(-400000001, 1000), frac(0, 1), frac(900000000, 1)}, nil} {
			got := impl.Outside(list, times)
			if (times < 0 || times > 100) && len(got) > 0 {
				t.Fatalf("Outside(%v, %d): %v", list, times, got)
			}
			checkOutside(t, list, times)
		}
	}
}

// What is no Range at each place of claims; a v that is no fraction.
func TestAgreementsRefuseWhatIsNoClaim(t *testing.T) {
	for _, wrong := range wrongSpans() {
		for _, n := range []int{1, 2, 3, 12} {
			for i := range n {
				for _, list := range [][]interval{claimsOn(n, 0, 0, 1), claimsOn(n, -5, 1, 0)} {
					list[i] = wrong
					nothingOfClaims(t, list)
				}
			}
		}
	}
	for _, wrong := range strangeRatios() {
		for _, r := range []interval{span(wrong, frac(1, 1)), span(frac(-1, 1), wrong), span(wrong, wrong)} {
			nothingOfClaims(t, []interval{r})
			nothingOfClaims(t, []interval{wholes(0, 1), r, wholes(2, 3)})
		}
		for _, list := range [][]interval{claims(-1, 1), claims(-maxPart, maxPart), claimsOn(12, 0, 0, 1), claims(5, 5)} {
			if got := impl.Deep(list, wrong); got != -1 {
				t.Fatalf("Deep(%v, %v): %d", list, wrong, got)
			}
		}
	}
}

// A number that is no fraction at each place, be it the middle one or not.
func TestAgreementsRefuseWhatIsNoFraction(t *testing.T) {
	for _, wrong := range strangeRatios() {
		for _, n := range []int{1, 2, 3, 4, 12} {
			for i := range n {
				for _, list := range [][]ratio{make0(n), countedTo(n)} {
					list[i] = wrong
					nothingOfNumbers(t, list)
				}
			}
		}
	}
}

// Each pair of edge numbers as one fraction, right or wrong, as an end, as v, as a number of the list.
func TestAgreementsAtEveryArgument(t *testing.T) {
	one, part := frac(1, 1), frac(-1, 2)
	for _, v := range anyRatios() {
		for _, list := range [][]interval{{span(v, one)}, {span(part, v)}, {span(v, v)}, {span(v, one), span(part, one)}, {wholes(-2, 2), span(part, v), span(v, v)}, {span(v, frac(maxPart, 1)), span(frac(-maxPart, 1), v), wholes(0, 1)}, {span(v, one), span(v, frac(maxPart, 1)), span(frac(-maxPart, 1), v)}} {
			checkAgreed(t, list)
			for _, w := range []ratio{v, one, part, frac(0, 1), frac(maxPart, 1)} {
				checkDeep(t, list, w)
			}
		}
		for _, list := range [][]ratio{{v}, {v, one}, {part, v}, {v, v}, {v, one, part}, {one, v, v}, {one, part, one, v}, {v, v, part, v}, {frac(maxPart, 1), v, frac(-maxPart, 1)}, {v, frac(1, maxPart), frac(0, 1), v, one}} {
			checkMiddle(t, list)
			checkSpreadOf(t, list)
			for _, times := range []int64{0, 1, 100} {
				checkOutside(t, list, times)
			}
		}
	}
}

// claimsWithRoom has behind the list claims that are Ranges, and such as are none.
func claimsWithRoom(list []interval) roomy[interval] {
	behind := append(claims(0, 1, -3, 5), noInterval, wholes(2, 1), span(frac(2, 4), frac(math.MinInt64, math.MaxInt64)))
	return roomyRows([][]interval{list}, append(behind, wholes(9, 9)))
}

type agreeArgument struct {
	claims  []interval
	numbers []ratio
}

// agreeArguments are claims and numbers whose answers are told, and such as are refused at the start or on the way.
func agreeArguments() []agreeArgument {
	list := []agreeArgument{{nil, nil}, {[]interval{}, []ratio{}}, {claimsOn(13, 0, 0, 1), countedTo(13)}, {claims(9, 1, 0, 1), []ratio{frac(5, 1), frac(2, 4), frac(1, 1)}}, {claims(5, 9, 0, 7, 3, 6), whole(9, -9, 5, 1)}}
	for _, c := range agreedCases() {
		if len(c.list) < 20 {
			list = append(list, agreeArgument{c.list, whole(3, 1, 2)})
		}
	}
	for _, c := range slices.Concat(middleCases(), spreadCases()) {
		if len(c.list) < 20 {
			list = append(list, agreeArgument{claims(3, 4, 1, 3), c.list})
		}
	}
	for _, c := range outsideCases() {
		if len(c.list) < 20 {
			list = append(list, agreeArgument{claims(3, 4, 1, 3), c.list})
		}
	}
	chanceAgreements(118, 20, func(_ *rand.Rand, some []interval, numbers []ratio) {
		list = append(list, agreeArgument{some, numbers})
	})
	return list
}

// Arguments stay in their order, with the room behind them; what is answered hangs on neither.
func TestAgreementsLeaveTheirArguments(t *testing.T) {
	for _, c := range agreeArguments() {
		some, numbers := claimsWithRoom(c.claims), withRoom(table(c.numbers))
		checkClaims(t, some.rows[0])
		checkNumbers(t, numbers.rows[0])
		if !some.stayed() || !numbers.stayed() {
			t.Fatalf("%v and %v have become %v and %v", some.before, numbers.before, some.room, numbers.room)
		}
	}
}

// No argument is a list of what an answer is a list of, so that an answer can share memory with another one alone.
func TestOutsideAnswersInNewMemory(t *testing.T) {
	for _, c := range agreeArguments() {
		newMemory(t, "Outside", dimMark, func() [][]int64 {
			var all [][]int64
			for _, times := range someTimes() {
				all = append(all, impl.Outside(c.numbers, times), impl.Outside(slices.Clone(c.numbers), times))
			}
			return all
		})
	}
}

// Where nothing is answered, nothing stands in the room behind the answer either.
func TestOutsideRefusesWithNothingBehind(t *testing.T) {
	for _, c := range agreeArguments() {
		for _, times := range append(someTimes(), math.MinInt64, math.MaxInt64) {
			got := impl.Outside(c.numbers, times)
			if len(got) == 0 && slices.ContainsFunc(got[:cap(got)], func(n int64) bool { return n != 0 }) {
				t.Fatalf("Outside(%v, %d): behind it %v", c.numbers, times, got[:cap(got)])
			}
		}
	}
}

// Two lists that share memory, and one thing that is there more than once, are as good as others that are alike.
func TestAgreementsOfSharedLists(t *testing.T) {
	room, numbers := claims(3, 9, 0, 4, 2, 2, 3, 9, 1, 5, 4, 4, 7, 8), whole(5, 1, 2, 50, 5, -7, 2)
	before, numbersBefore := slices.Clone(room), slices.Clone(numbers)
	for i := range room {
		for k := i; k <= len(room); k++ {
			checkClaims(t, room[i:k])
			checkNumbers(t, numbers[i:k])
		}
	}
	if !slices.Equal(room, before) || !slices.Equal(numbers, numbersBefore) {
		t.Fatal("changed", room, numbers)
	}
}

// The same arguments have the same answers, whatever was asked or written over in between: nothing is kept.
func TestAgreementsAnswerAlikeAgain(t *testing.T) {
	list := agreeArguments()
	tell := func(c agreeArgument) []any {
		agreed, deep := impl.Agreed(c.claims)
		middle, middleIs := impl.Middle(c.numbers)
		spread, spreadIs := impl.Spread(c.numbers)
		all := []any{agreed, deep, middle, middleIs, spread, spreadIs, impl.Deep(c.claims, middle), impl.Deep(c.claims, agreed.Low)}
		for _, times := range someTimes() {
			outside := impl.Outside(c.numbers, times)
			for _, i := range outside {
				all = append(all, i)
			}
			all = append(all, len(outside))
			scribbled(outside, 7777)
		}
		return all
	}
	var told [][]any
	for _, c := range list {
		told = append(told, tell(c))
	}
	for i, c := range slices.Backward(list) {
		if !slices.Equal(tell(c), told[i]) {
			t.Fatalf("%v: %v, not %v", c, tell(c), told[i])
		}
	}
}
