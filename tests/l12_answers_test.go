package tests

import (
	"math"
	"slices"
	"testing"

	"loop.example/g00069/impl"
)

// nothingOfTurn: no function of chapter 12 takes this Turn, whatever stands beside it.
func nothingOfTurn(t *testing.T, wrong turn) {
	t.Helper()
	norm, is := impl.Norm(wrong)
	if impl.TurnOk(wrong) || impl.Mirror(wrong) != noTurn || norm != zero || is {
		t.Fatalf("%v is taken", wrong)
	}
	for _, other := range []turn{wrong, noTurn, spelt("0 0"), spelt("1 0"), spelt("0 1"), spelt("-1/2 3"), spelt("1000000000 -1000000000"), twoParts(wrong.Im, wrong.Re)} {
		for _, p := range turnings() {
			p.refusesBothWays(t, wrong, other)
		}
	}
}

// Promise 21 for chapter 12: what is no fraction in the one part, in the other, in both, on either side.
func TestTurnsRefuseWhatIsNone(t *testing.T) {
	for _, wrong := range wrongTurns() {
		nothingOfTurn(t, wrong)
	}
	for _, wrong := range strangeRatios() {
		for _, r := range []ratio{frac(0, 1), frac(-1, 2), frac(maxPart, 1)} {
			nothingOfTurn(t, twoParts(wrong, r))
			nothingOfTurn(t, twoParts(r, wrong))
		}
		nothingOfTurn(t, twoParts(wrong, wrong))
	}
}

// The least and the greatest int64 in each of the eight places of two Turns, alone and all at once.
func TestTurnsOfTheLeastAndTheGreatest(t *testing.T) {
	for _, n := range []int64{math.MinInt64, math.MinInt64 + 1, math.MaxInt64 - 1, math.MaxInt64} {
		for _, text := range []string{"0 0", "1 1", "-3/2 1/3", "1000000000 1/1000000000"} {
			for i := range 4 {
				wrong := spelt(text)
				*[]*int64{&wrong.Re.N, &wrong.Re.D, &wrong.Im.N, &wrong.Im.D}[i] = n
				nothingOfTurn(t, wrong)
				checkTurns(t, wrong, spelt(text))
			}
		}
		nothingOfTurn(t, twoParts(frac(n, n), frac(n, n)))
		nothingOfTurn(t, twoParts(frac(n, 1), frac(n, 1)))
		nothingOfTurn(t, twoParts(frac(1, n), frac(1, n)))
	}
}

// Each function at Turns with every two edge numbers as a part, right or wrong.
func TestTurnsOfEveryNumber(t *testing.T) {
	others := []turn{noTurn, spelt("0 0"), spelt("0 1"), spelt("-3/2 1/3")}
	for _, v := range anyRatios() {
		for _, w := range []ratio{frac(0, 1), frac(-3, 2), frac(1, maxPart), v} {
			for _, a := range []turn{twoParts(v, w), twoParts(w, v)} {
				checkTurn(t, a)
				for _, b := range others {
					checkTurns(t, a, b)
				}
			}
		}
		checkTurns(t, twoParts(v, v), twoParts(v, v))
	}
}

// Of the pairs of small Turns all but a quotient by 0 are told; of those at the edges each step has some of each kind.
func TestTurnsInAllPairs(t *testing.T) {
	for _, p := range turnings() {
		for _, a := range smallTurns() {
			for _, b := range smallTurns() {
				if p.check(t, a, b) == (p.name == "TurnDiv" && b == spelt("0 0")) {
					t.Fatal(p.name, a, b)
				}
			}
		}
		told, refused := 0, 0
		for _, a := range edgeTurns() {
			for _, b := range edgeTurns() {
				if p.check(t, a, b) {
					told++
				} else {
					refused++
				}
			}
		}
		if told < 300 || refused < 5000 {
			t.Error(p.name, told, refused)
		}
	}
	told := 0
	for _, a := range edgeTurns() {
		if checkTurn(t, a) {
			told++
		}
	}
	if told < 10 || told > 50 {
		t.Error("Norm", told)
	}
}

func TestTurnsByChance(t *testing.T) {
	told := map[string]int{}
	chanceTurns(125, 10000, func(a, b, c turn) {
		for _, p := range turnings() {
			for _, pair := range [][2]turn{{a, b}, {b, c}, {c, c}, {a, impl.Mirror(a)}} {
				if p.check(t, pair[0], pair[1]) {
					told[p.name]++
				}
			}
		}
		if checkTurn(t, a) {
			told["Norm"]++
		}
	})
	for _, name := range []string{"TurnAdd", "TurnSub", "TurnMul", "TurnDiv", "Norm"} {
		if told[name] < 5000 {
			t.Error("too few", told)
		}
	}
}

// someTurns are right ones and wrong ones, of each kind.
func someTurns() []turn { return slices.Concat(wrongTurns(), smallTurns(), edgeTurns()) }

// Arguments stay: they are handed in from a list, which is the same behind it.
func TestTurnsLeaveTheirArguments(t *testing.T) {
	list, before := someTurns(), someTurns()
	for i := range list {
		for _, next := range []*turn{&list[(i+1)%len(list)], &list[(7*i+3)%len(list)], &list[i]} {
			for _, p := range turnings() {
				p.by(list[i], *next)
				p.by(*next, list[i])
			}
		}
		impl.TurnOk(list[i])
		impl.Mirror(list[i])
		impl.Norm(list[i])
	}
	if !slices.Equal(list, before) {
		t.Fatal("changed")
	}
}

// The same arguments have the same answers, whatever was asked or written over in between: nothing is kept.
func TestTurnsAnswerAlikeAgain(t *testing.T) {
	list := someTurns()
	alikeAgain(t, len(list), func(i int) []any {
		a, b := list[i], list[(11*i+5)%len(list)]
		norm, is := impl.Norm(a)
		all := []any{impl.TurnOk(a), impl.Mirror(a), norm, is}
		for _, p := range turnings() {
			for _, other := range []turn{b, a} {
				c, cIs := p.by(a, other)
				all = append(all, c, cIs)
				c.Re.N, c.Im.D = 7777, 7777
			}
		}
		return all
	})
}
