package tests

import (
	"slices"
	"testing"

	"loop.example/g00069/impl"
)

// Promise 21 for chapter 7: each function at Ranges of every two edge numbers, the least and the greatest int64 among them.
func TestRangesOfEveryNumber(t *testing.T) {
	others := []interval{noInterval, wholes(0, 0), wholes(-1, 2), span(frac(-3, 2), frac(1, maxPart)), wholes(-maxPart, maxPart), wholes(2, 1)}
	for _, v := range anyRatios() {
		for _, w := range []ratio{frac(0, 1), frac(-3, 2), frac(maxPart, 1), frac(-maxPart, 1), frac(1, maxPart), zero, v} {
			for _, r := range []interval{span(v, w), span(w, v)} {
				checkSpan(t, r)
				checkWidth(t, r)
				checkWithin(t, r, v)
				checkWithin(t, r, w)
				for _, other := range append(others, r) {
					checkPairs(t, r, other)
				}
			}
		}
		for _, other := range others {
			checkWithin(t, other, v)
		}
	}
}

func TestRangesInAllPairs(t *testing.T) {
	for _, list := range [][]interval{smallSpans(), edgeSpans()} {
		for _, a := range list {
			checkSpan(t, a)
			checkWidth(t, a)
			for _, b := range list {
				checkPairs(t, a, b)
				for _, v := range []ratio{b.Low, b.High} {
					checkWithin(t, a, v)
				}
			}
		}
	}
}

// Of the pairs at the edges each way has some that are told, and some that are too great or have nothing in common.
func TestRangesAtTheEdgesAreOfEachKind(t *testing.T) {
	for _, p := range pairings() {
		told, refused := 0, 0
		for _, a := range edgeSpans() {
			for _, b := range edgeSpans() {
				if p.check(t, a, b) {
					told++
				} else {
					refused++
				}
			}
		}
		if told < 1000 || refused < 1000 {
			t.Error(p.name, told, refused)
		}
	}
}

// What is no Range is refused on either side, beside any other one.
func TestRangesRefuseWhatIsNone(t *testing.T) {
	for _, wrong := range wrongSpans() {
		if impl.RangeOk(wrong) {
			t.Fatalf("%v is taken", wrong)
		}
		if w, is := impl.Width(wrong); is || w != zero {
			t.Fatalf("Width(%v): %v %v", wrong, w, is)
		}
		for _, v := range []ratio{wrong.Low, wrong.High, frac(0, 1), frac(1, 2), frac(-1, 1), frac(maxPart, 1), zero} {
			if impl.Within(wrong, v) {
				t.Fatalf("%v within %v", v, wrong)
			}
		}
		for _, other := range []interval{wrong, noInterval, wholes(0, 0), wholes(1, 1), wholes(-1, 2), wholes(3, 4), wholes(-maxPart, maxPart), span(wrong.High, wrong.Low)} {
			for _, p := range pairings() {
				p.refusesBothWays(t, wrong, other)
			}
		}
	}
	for _, wrong := range wrongRatios() {
		for _, r := range append(edgeSpans(), smallSpans()...) {
			if impl.Within(r, wrong) {
				t.Fatalf("%v within %v", wrong, r)
			}
		}
	}
}

// someSpans are Ranges and what is none, of each kind.
func someSpans() []interval { return slices.Concat(wrongSpans(), smallSpans(), edgeSpans()) }

// Arguments stay: they are handed in from a list, which is the same behind it.
func TestRangesLeaveTheirArguments(t *testing.T) {
	list, before := someSpans(), someSpans()
	for i := range list {
		for _, next := range []*interval{&list[(i+1)%len(list)], &list[(7*i+3)%len(list)], &list[i]} {
			for _, p := range pairings() {
				p.by(list[i], *next)
			}
			impl.Within(list[i], next.Low)
		}
		impl.RangeOk(list[i])
		impl.Width(list[i])
	}
	if !slices.Equal(list, before) {
		t.Fatal("changed")
	}
}

// The same arguments have the same answers, whatever was asked or written over in between: nothing is kept.
func TestRangesAnswerAlikeAgain(t *testing.T) {
	list := someSpans()
	alikeAgain(t, len(list), func(i int) []any {
		a, b := list[i], list[(11*i+5)%len(list)]
		width, is := impl.Width(a)
		all := []any{impl.RangeOk(a), impl.Within(a, b.Low), impl.Within(a, a.High), width, is}
		for _, p := range pairings() {
			for _, other := range []interval{b, a} {
				r, is := p.by(a, other)
				all = append(all, r, is)
				r.Low.N, r.High.D = 7777, 7777
			}
		}
		return all
	})
}
