package tests

import (
	"slices"
	"strings"
	"testing"

	"loop.example/g00069/impl"
)

// someTexts are words, unit texts, and such as are refused at the start, at the end or on the way.
func someTexts() []string {
	list := slices.Concat(wordNames, noWords(), noUnits(), slices.Concat(likeUnits()...))
	chanceUnits(52, 100, func(s string) { list = append(list, s) })
	return append(list, "km^4", "km^4/km", "m^9.m", "m^9.m/m", "J^5", "s.N^5", "m^9/m^9", "in^3", "mm.km^4", strings.Repeat("m^", 10000), strings.Repeat("m/", 10000), strings.Repeat("^", 10000), strings.Repeat("-", 10000))
}

// Promise 21 for chapter 5: each function at texts of each kind, and at pairs of them.
func TestUnitsAtEveryArgument(t *testing.T) {
	list := someTexts()
	for i, a := range list {
		checkWord(t, a)
		checkUnit(t, a)
		for k, b := range []string{a, list[(7*i+1)%len(list)], "1", "C", "K", "m", ""} {
			checkConverted(t, frac(int64(i)-40, int64(k)*6+1), a, b)
			checkConverted(t, frac(int64(i)-40, int64(k)*6+1), b, a)
		}
	}
}

// What is no fraction is refused between any texts, and what is one is told or refused as it should be.
func TestConvertedOfEveryNumber(t *testing.T) {
	for _, c := range [][2]string{{"m", "m"}, {"1", "1"}, {"km", "m"}, {"m", "km"}, {"C", "C"}, {"C", "K"}, {"K", "C"}, {"mK", "C"}, {"C^1", "C"}, {"in", "cm"}, {"h", "s"}, {"m", "s"}, {"", "m"}, {"m", "1/s"}} {
		for _, v := range anyRatios() {
			checkConverted(t, v, c[0], c[1])
		}
		for _, v := range wrongRatios() {
			if got, is := impl.Converted(v, c[0], c[1]); is || got != zero {
				t.Fatalf("Converted(%v, %q, %q): %v %v", v, c[0], c[1], got, is)
			}
		}
	}
}

func TestUnitAnswersAreNewMemory(t *testing.T) {
	for _, s := range someTexts() {
		var rows [][]int64
		for range 2 {
			_, word, _ := impl.Word(s)
			_, unit, _ := impl.UnitOf(s)
			rows = append(rows, word, unit, impl.Dims(s))
		}
		apart(t, "what is told of "+s, dimMark, rows...)
		// What was written over is told as before.
		checkWord(t, s)
		checkUnit(t, s)
	}
}

// A text that is cut out of a longer one is read to its own end, and the longer one stays.
func TestUnitsLeaveTheirArguments(t *testing.T) {
	for _, s := range someTexts() {
		for _, around := range []string{"", "m", "k", "^2", ".", "/", "1", "0", "-", "^", "C", "\xff", " "} {
			long := around + s + around
			before := strings.Clone(long)
			inner := long[len(around) : len(around)+len(s)]
			checkWord(t, inner)
			checkUnit(t, inner)
			checkConverted(t, frac(3, 2), inner, inner)
			if long != before || inner != s {
				t.Fatalf("%q has become %q", before, long)
			}
		}
	}
}

// The same arguments have the same answers, whatever was asked in between: nothing is kept.
func TestUnitsAnswerAlikeAgain(t *testing.T) {
	tell := func(list []string) map[string][]string {
		all := map[string][]string{}
		for i, s := range list {
			f, d, _ := impl.Word(s)
			g, e, _ := impl.UnitOf(s)
			v, _ := impl.Converted(frac(7, 2), s, "K")
			w, _ := impl.Converted(frac(7, 2), "K", s)
			told := []string{impl.ShowRatio(f), impl.ShowDim(d), impl.ShowRatio(g), impl.ShowDim(e), impl.ShowDim(impl.Dims(s)), impl.ShowRatio(v), impl.ShowRatio(w)}
			if impl.Both(s) {
				told = append(told, "both")
			}
			if before, is := all[s]; is && !slices.Equal(before, told) {
				t.Fatalf("%d, %q: %v, not %v", i, s, told, before)
			}
			all[s] = told
		}
		return all
	}
	list := someTexts()
	there := tell(list)
	slices.Reverse(list)
	for s, told := range tell(append(list, list...)) {
		if !slices.Equal(told, there[s]) {
			t.Fatalf("%q: %v, not %v", s, told, there[s])
		}
	}
}
