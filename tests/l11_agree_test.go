package tests

import (
	"math"
	"math/rand"
	"slices"
	"testing"

	"loop.example/g00069/impl"
)

// claimsOn are n claims, each one behind the last by step, from low on, all as wide.
func claimsOn(n int, low int64, step int64, wide int64) []interval {
	list := []interval{}
	for i := range int64(n) {
		list = append(list, wholes(low+i*step, low+i*step+wide))
	}
	return list
}

type deepCase struct {
	list []interval
	v    ratio
	want int64
}

func TestDeepTells(t *testing.T) {
	four, one := claims(1, 5, 4, 9, 3, 6, 7, 8), claims(-1, 2)
	third := []interval{span(frac(1, 3), frac(1, 2)), span(frac(-1, 2), frac(1, 3)), wholes(0, 1)}
	for _, c := range []deepCase{
		{four, frac(15, 2), 2}, {four, frac(9, 2), 3}, {four, frac(2, 1), 1}, {four, frac(13, 2), 1}, {four, frac(0, 1), 0}, {four, frac(10, 1), 0}, {four, frac(-3, 1), 0},
		// At an end, and as near beside it as can be.
		{four, frac(1, 1), 1}, {four, frac(3, 1), 2}, {four, frac(4, 1), 3}, {four, frac(5, 1), 3}, {four, frac(6, 1), 2}, {four, frac(7, 1), 2}, {four, frac(8, 1), 2}, {four, frac(9, 1), 1}, {four, frac(999999996, 199999999), 2}, {four, frac(999999999, 200000000), 3}, {four, frac(999999999, maxPart), 0}, {four, frac(maxPart, 999999999), 1}, {four, frac(999999991, 111111110), 0}, {four, frac(999999998, 111111111), 1}, {third, frac(1, 3), 3}, {third, frac(333333333, maxPart), 2}, {third, frac(333333334, 999999999), 2}, {third, frac(1, 2), 2}, {third, frac(500000000, 999999999), 1}, {third, frac(-1, 2), 1}, {third, frac(-500000000, 999999999), 0},
		// One claim, twelve, alike, of one number, touching in one.
		{one, frac(0, 1), 1}, {one, frac(-1, 1), 1}, {one, frac(2, 1), 1}, {one, frac(-2, 1), 0}, {one, frac(3, 1), 0}, {claims(7, 7), frac(7, 1), 1}, {claims(7, 7), frac(6, 1), 0}, {claims(7, 7, 7, 7, 7, 7), frac(7, 1), 3}, {slices.Repeat(one, 12), frac(1, 2), 12}, {slices.Repeat(one, 12), frac(5, 2), 0}, {claimsOn(12, 0, 1, 1), frac(0, 1), 1}, {claimsOn(12, 0, 1, 1), frac(1, 1), 2}, {claimsOn(12, 0, 1, 1), frac(1, 2), 1}, {claimsOn(12, 0, 1, 1), frac(12, 1), 1}, {claimsOn(12, 0, 1, 30), frac(20, 1), 12}, {claimsOn(12, 0, 1, 30), frac(10, 1), 11}, {claims(1, 3, 3, 5, 3, 3), frac(3, 1), 3}, {claims(-maxPart, maxPart), frac(-maxPart, 1), 1}, {claims(-maxPart, maxPart, 0, maxPart-1), frac(maxPart, 1), 1},
		{nil, frac(0, 1), -1}, {[]interval{}, frac(0, 1), -1}, {claimsOn(13, 0, 0, 1), frac(0, 1), -1}, {make([]interval, 100000), frac(0, 1), -1}, {claims(0, 1, 2, 1), frac(0, 1), -1}, {claims(2, 1, 0, 1), frac(9, 1), -1}, {make([]interval, 1), frac(0, 1), -1}, {[]interval{wholes(0, 1), span(frac(0, 1), frac(2, 4))}, frac(0, 1), -1}, {[]interval{span(frac(0, 2), frac(1, 1)), wholes(0, 1)}, frac(0, 1), -1},
		{one, zero, -1}, {one, frac(2, 4), -1}, {one, frac(0, 2), -1}, {one, frac(1, -1), -1}, {one, frac(maxPart+1, 1), -1}, {one, frac(1, maxPart+1), -1}, {one, frac(math.MinInt64, math.MinInt64), -1}, {four, frac(math.MaxInt64, 1), -1}, {nil, zero, -1},
	} {
		if got := impl.Deep(c.list, c.v); got != c.want {
			t.Errorf("Deep(%v, %v): %d, not %d", c.list, c.v, got, c.want)
		}
		checkDeep(t, c.list, c.v)
	}
}

type agreedCase struct {
	list []interval
	want interval
	deep int64
}

func agreedCases() []agreedCase {
	nested := []interval{}
	for i := range int64(12) {
		nested = append(nested, wholes(-1-i, 2+i))
	}
	return []agreedCase{
		{claims(1, 5, 4, 9, 3, 6, 7, 8), wholes(4, 5), 3}, {claims(8, 12, 11, 13, 14, 15), wholes(11, 12), 2}, {claims(8, 12, 11, 13, 10, 12), wholes(11, 12), 3}, {claims(8, 9, 8, 12, 10, 12), wholes(8, 9), 2}, {claims(-9, -4, -5, -1, -3, 0), wholes(-5, -4), 2},
		{[]interval{span(frac(1, 3), frac(1, 2)), span(frac(2, 5), frac(3, 4))}, span(frac(2, 5), frac(1, 2)), 2}, {[]interval{span(frac(-1, 2), frac(-2, 5)), span(frac(-3, 7), frac(-1, 3)), span(frac(-1, 3), frac(1, 2))}, span(frac(-3, 7), frac(-2, 5)), 2},
		// One claim; of one number; of all numbers.
		{claims(-1, 2), wholes(-1, 2), 1}, {claims(7, 7), wholes(7, 7), 1}, {claims(-maxPart, maxPart), wholes(-maxPart, maxPart), 1}, {claims(maxPart, maxPart), wholes(maxPart, maxPart), 1}, {[]interval{span(frac(-1, maxPart), frac(1, maxPart))}, span(frac(-1, maxPart), frac(1, maxPart)), 1},
		// Twelve: alike, in one another, one behind the other, touching, over one another.
		{slices.Repeat(claims(-1, 2), 12), wholes(-1, 2), 12}, {slices.Repeat(claims(3, 3), 12), wholes(3, 3), 12}, {nested, wholes(-1, 2), 12}, {claimsOn(12, 0, 2, 1), wholes(0, 1), 1}, {claimsOn(12, 0, 1, 1), wholes(1, 1), 2}, {claimsOn(12, 0, 1, 3), wholes(3, 3), 4}, {claimsOn(12, 0, 2, 5), wholes(4, 5), 3}, {claimsOn(12, 0, 1, 11), wholes(11, 11), 12}, {claimsOn(12, 0, 1, 12), wholes(11, 12), 12}, {claimsOn(12, 0, 1, 10), wholes(10, 10), 11}, {claimsOn(12, 22, -2, 1), wholes(0, 1), 1},
		// In one another, also with one end that is both's; alike.
		{claims(0, 9, 2, 3), wholes(2, 3), 2}, {claims(2, 3, 0, 9, 1, 5), wholes(2, 3), 3}, {claims(0, 9, 0, 3), wholes(0, 3), 2}, {claims(0, 9, 5, 9), wholes(5, 9), 2}, {claims(1, 4, 1, 4), wholes(1, 4), 2}, {claims(1, 4, 1, 4, 2, 9), wholes(2, 4), 3},
		// They touch in one number alone; it is a claim of its own.
		{claims(1, 3, 3, 5), wholes(3, 3), 2}, {claims(3, 5, 1, 3), wholes(3, 3), 2}, {claims(1, 3, 3, 5, 3, 3), wholes(3, 3), 3}, {claims(0, 5, 3, 3), wholes(3, 3), 2}, {claims(0, 3, 3, 3), wholes(3, 3), 2}, {claims(3, 3, 3, 9), wholes(3, 3), 2}, {claims(0, 10, 2, 4, 4, 6), wholes(4, 4), 3}, {claims(0, 1, 1, 2, 2, 3), wholes(1, 1), 2}, {claims(2, 3, 1, 2, 0, 1), wholes(1, 1), 2}, {claims(1, 1, 2, 2), wholes(1, 1), 1}, {claims(2, 2, 1, 1, 3, 3), wholes(1, 1), 1},
		// Several Ranges with as many: the least, be it the narrower one, and whichever claims come first.
		{claims(0, 2, 1, 3, 10, 12, 11, 13), wholes(1, 2), 2}, {claims(10, 12, 11, 13, 0, 2, 1, 3), wholes(1, 2), 2}, {claims(0, 1, 1, 2, 5, 8, 6, 9), wholes(1, 1), 2}, {claims(6, 9, 5, 8, 1, 2, 0, 1), wholes(1, 1), 2}, {claims(1, 2, 3, 9), wholes(1, 2), 1}, {claims(3, 9, 1, 2), wholes(1, 2), 1}, {claims(0, 10, 2, 4, 5, 6, 8, 9), wholes(2, 4), 2}, {claims(0, 10, 8, 9, 5, 6, 2, 4), wholes(2, 4), 2}, {claims(-5, -4, 4, 5), wholes(-5, -4), 1}, {claims(0, 1, 5, 6, 5, 7), wholes(5, 6), 2}, {claims(0, 2, 1, 3, 10, 14, 11, 13, 12, 12), wholes(12, 12), 3}, {claims(0, 3, 1, 3, 2, 9, 5, 8, 6, 7), wholes(2, 3), 3},
		// Several claims have its Low, or its High; others end or begin beside it alone.
		{claims(1, 5, 1, 6, 0, 5, 1, 5), wholes(1, 5), 4}, {claims(1, 5, 1, 6, 1, 7), wholes(1, 5), 3}, {claims(1, 5, 2, 5, 3, 5), wholes(3, 5), 3}, {claims(0, 9, 2, 5, 2, 5, 6, 7, 0, 1), wholes(2, 5), 3}, {claims(0, 2, 2, 5, 2, 5), wholes(2, 2), 3}, {claims(2, 5, 2, 5, 5, 7), wholes(5, 5), 3}, {claims(0, 1, 1, 4, 1, 4, 4, 6), wholes(1, 1), 3}, {claims(0, 3, 1, 4, 1, 2, 4, 5), wholes(1, 2), 3},
		// Between two ends there is no fraction, but numbers that neither claim has.
		{claims(0, maxPart-1, maxPart, maxPart), wholes(0, maxPart-1), 1}, {claims(600000002, 600000003, 600000000, 600000001), wholes(600000000, 600000001), 1}, {claims(1-maxPart, 0, -maxPart, -maxPart), wholes(-maxPart, -maxPart), 1}, {[]interval{span(frac(0, 1), frac(1, maxPart)), span(frac(1, 999999999), frac(1, 1))}, span(frac(0, 1), frac(1, maxPart)), 1},
		// As near as can be: they have one number, or a bit, or nothing in common.
		{[]interval{span(frac(0, 1), frac(1, 999999999)), span(frac(1, maxPart), frac(1, 1))}, span(frac(1, maxPart), frac(1, 999999999)), 2}, {[]interval{span(frac(0, 1), frac(1, maxPart)), span(frac(1, maxPart), frac(1, 1))}, span(frac(1, maxPart), frac(1, maxPart)), 2}, {[]interval{span(frac(-1, 1), frac(999999998, 999999999)), span(frac(999999999, maxPart), frac(2, 1))}, span(frac(-1, 1), frac(999999998, 999999999)), 1}, {claims(-maxPart, 0, 0, maxPart), wholes(0, 0), 2}, {claims(-maxPart, maxPart, maxPart, maxPart), wholes(maxPart, maxPart), 2}, {claims(-maxPart, maxPart, -maxPart, -maxPart), wholes(-maxPart, -maxPart), 2},
		{nil, noInterval, -1}, {[]interval{}, noInterval, -1}, {claimsOn(13, 0, 0, 1), noInterval, -1}, {claimsOn(13, 0, 2, 1), noInterval, -1}, {make([]interval, 100000), noInterval, -1}, {make([]interval, 1), noInterval, -1}, {claims(2, 1), noInterval, -1}, {claims(0, 1, 1, 0), noInterval, -1}, {claims(1, 0, 0, 1, 0, 1), noInterval, -1}, {[]interval{wholes(0, 1), span(frac(1, 2), frac(1, 3))}, noInterval, -1},
		{[]interval{wholes(0, 1), span(frac(0, 1), frac(2, 4))}, noInterval, -1}, {[]interval{span(frac(2, 4), frac(1, 1)), wholes(0, 1)}, noInterval, -1}, {[]interval{wholes(0, 1), {}}, noInterval, -1}, {claims(0, maxPart+1), noInterval, -1}, {claims(-maxPart-1, 0, 0, 1), noInterval, -1}, {claims(math.MinInt64, math.MaxInt64), noInterval, -1},
	}
}

func TestAgreedTells(t *testing.T) {
	for _, c := range agreedCases() {
		if got, deep := impl.Agreed(c.list); got != c.want || deep != c.deep {
			t.Errorf("Agreed(%v): %v %d, not %v %d", c.list, got, deep, c.want, c.deep)
		}
		checkClaims(t, c.list)
	}
}

// Whichever claim comes first, the same is Agreed.
func TestAgreedInWhateverOrder(t *testing.T) {
	chance := rand.New(rand.NewSource(111))
	for _, c := range agreedCases() {
		if len(c.list) > 12 {
			continue
		}
		for range 30 {
			list := slices.Clone(c.list)
			chance.Shuffle(len(list), func(i, k int) { list[i], list[k] = list[k], list[i] })
			if got, deep := impl.Agreed(list); got != c.want || deep != c.deep {
				t.Fatalf("Agreed(%v): %v %d, not %v %d", list, got, deep, c.want, c.deep)
			}
		}
	}
}

// everyClaims are all lists of n claims with whole ends from 0 to most.
func everyClaims(n int, most int64, tell func([]interval)) {
	list := make([]interval, n)
	var fill func(int)
	fill = func(i int) {
		if i == n {
			tell(list)
			return
		}
		for low := range most + 1 {
			for high := low; high <= most; high++ {
				list[i] = wholes(low, high)
				fill(i + 1)
			}
		}
	}
	fill(0)
}

// Promise 11, MARZULLO: no number is in more claims than those of Agreed, and no other number that lies lower, or
// beside its ends, is in as many. All small lists.
func TestNoNumberIsInMoreClaims(t *testing.T) {
	for n, most := range []int64{1: 7, 2: 7, 3: 5, 4: 3, 5: 2} {
		everyClaims(n, most, func(list []interval) {
			agreed, deep := impl.Agreed(list)
			if n > 0 && deep < 1 {
				t.Fatal(list, deep)
			}
			wide := true // no number from Low on has less claims yet
			for i := -1; i <= 2*int(most)+1; i++ {
				v, _ := impl.Reduced(int64(i), 2)
				got := impl.Deep(list, v)
				wide = wide && (impl.Less(v, agreed.Low) || got == deep)
				if got > deep || got == deep && impl.Less(v, agreed.Low) || n > 0 && impl.Within(agreed, v) != (wide && !impl.Less(v, agreed.Low)) {
					t.Fatalf("%v: Agreed %v %d, but %v is in %d", list, agreed, deep, v, got)
				}
			}
		})
	}
}

// Promise 11, for claims by chance: at their ends, beside them, between them, anywhere.
func TestNoNumberIsInMoreOfManyClaims(t *testing.T) {
	asked, several := 0, 0
	chanceAgreements(112, 400, func(chance *rand.Rand, list []interval, numbers []ratio) {
		agreed, deep := impl.Agreed(list)
		for _, v := range parted(agreed) {
			if impl.Deep(list, v) != deep {
				t.Fatalf("%v: Agreed %v %d, but %v is in %d", list, agreed, deep, v, impl.Deep(list, v))
			}
		}
		all := slices.Clone(numbers)
		for _, r := range list {
			all = append(all, parted(r)...)
			for _, v := range []ratio{r.Low, r.High} {
				all = append(all, neighbour(v, -1, maxPart), neighbour(v, 1, maxPart))
			}
		}
		for _, v := range all {
			got := impl.Deep(list, v)
			if got > deep || got == deep && impl.Less(v, agreed.Low) {
				t.Fatalf("%v: Agreed %v %d, but %v is in %d", list, agreed, deep, v, got)
			}
			asked++
			if got == deep && !impl.Within(agreed, v) {
				several++
			}
		}
	})
	if asked < 100000 || several < 1000 {
		t.Error("too few", asked, several)
	}
}

// As many as have anything in common at all, by Meet of each choice of them, are Agreed; and it is what just they have.
func TestAgreedIsWhatMostMeetIn(t *testing.T) {
	told := 0
	chanceAgreements(113, 40, func(_ *rand.Rand, list []interval, _ []ratio) {
		if len(list) > 9 {
			return
		}
		want, most := noInterval, int64(0)
		for choice := 1; choice < 1<<len(list); choice++ {
			both, is, n := wholes(-maxPart, maxPart), true, int64(0)
			for i, r := range list {
				if is && choice>>i&1 == 1 {
					both, is = impl.Meet(both, r)
					n++
				}
			}
			if is && (n > most || n == most && impl.Less(both.Low, want.Low)) {
				want, most = both, n
			}
		}
		if got, deep := impl.Agreed(list); got != want || deep != most {
			t.Fatalf("Agreed(%v): %v %d, not %v %d", list, got, deep, want, most)
		}
		told++
	})
	if told != 360 {
		t.Error(told)
	}
}

func TestClaimsByChance(t *testing.T) {
	depths := map[int64]int{}
	chanceAgreements(114, 300, func(_ *rand.Rand, list []interval, _ []ratio) {
		depths[checkAgreed(t, list)]++
		checkClaims(t, list)
	})
	for deep := int64(1); deep <= 12; deep++ {
		if depths[deep] < 5 {
			t.Error("too few", depths)
		}
	}
}

type middleCase struct {
	list []ratio
	want ratio // the zero Ratio where it is none
}

func countedTo(n int) []ratio { return filled(1, n)[0] }

func middleCases() []middleCase {
	near := []ratio{frac(999999999, maxPart), frac(1, 1), frac(999999998, 999999999)}
	return []middleCase{
		{whole(5, 1, 2, 50), frac(7, 2)}, {whole(3, 1, 2), frac(2, 1)}, {whole(-3, 5, -7, 0, 1), frac(0, 1)}, {whole(-3, -1), frac(-2, 1)}, {whole(-1, 2), frac(1, 2)}, {whole(9, -9), frac(0, 1)}, {whole(10, 9, 100, -1, 11), frac(10, 1)},
		// One; twelve; an even and an odd number of them.
		{whole(7), frac(7, 1)}, {whole(0), frac(0, 1)}, {whole(-maxPart), frac(-maxPart, 1)}, {[]ratio{frac(-1, maxPart)}, frac(-1, maxPart)}, {whole(12, 1, 11, 2, 10, 3, 9, 4, 8, 5, 7, 6), frac(13, 2)}, {whole(7, 1, 11, 2, 10, 3, 9, 4, 8, 5, 6), frac(6, 1)}, {whole(1, 2), frac(3, 2)}, {whole(2, 1), frac(3, 2)}, {make0(12), frac(0, 1)}, {whole(0, 0, 0, 0, 0, 0, 1, 1, 1, 1, 1, 1), frac(1, 2)}, {whole(0, 0, 0, 0, 0, 1, 1, 1, 1, 1, 1), frac(1, 1)}, {whole(0, 0, 0, 0, 0, 0, 1, 1, 1, 1, 1), frac(0, 1)},
		// Alike ones.
		{whole(2, 2), frac(2, 1)}, {whole(2, 2, 2), frac(2, 1)}, {whole(1, 1, 2), frac(1, 1)}, {whole(2, 1, 2), frac(2, 1)}, {whole(9, 1, 1, 1), frac(1, 1)}, {whole(1, 9, 9, 1), frac(5, 1)}, {whole(9, 9, 1, 9), frac(9, 1)}, {whole(3, 1, 3, 1, 2), frac(2, 1)},
		// By what they are, not by N, nor by D.
		{[]ratio{frac(1, 2), frac(1, 3), frac(2, 3)}, frac(1, 2)}, {[]ratio{frac(1, 2), frac(1, 3)}, frac(5, 12)}, {[]ratio{frac(1, 2), frac(2, 5), frac(3, 7)}, frac(3, 7)}, {[]ratio{frac(-1, 2), frac(-2, 5), frac(-3, 7)}, frac(-3, 7)}, {[]ratio{frac(5, 9), frac(1, 1), frac(4, 3)}, frac(1, 1)}, {[]ratio{frac(-1, 3), frac(1, 3), frac(0, 1), frac(1, 2)}, frac(1, 6)}, {near, frac(999999999, maxPart)}, {[]ratio{frac(maxPart, 999999999), frac(999999999, 999999998), frac(1, 1)}, frac(maxPart, 999999999)}, {[]ratio{frac(-999999999, maxPart), frac(-1, 1), frac(-999999998, 999999999)}, frac(-999999999, maxPart)}, {[]ratio{frac(maxPart, 1), frac(1, maxPart), frac(-maxPart, 1)}, frac(1, maxPart)},
		// Just fractions, and too great: the sum, also where the half would be right, and the half alone.
		{whole(maxPart, 0), frac(halfPart, 1)}, {whole(maxPart-1, 1), frac(halfPart, 1)}, {whole(maxPart, -1), frac(maxPart-1, 2)}, {whole(-maxPart, 0), frac(-halfPart, 1)}, {whole(maxPart, -maxPart), frac(0, 1)}, {whole(maxPart, 1), zero}, {whole(-1, -maxPart), zero}, {whole(maxPart, maxPart), zero}, {whole(-maxPart, -maxPart), zero}, {whole(halfPart, halfPart), frac(halfPart, 1)}, {whole(halfPart, halfPart+2), zero}, {whole(halfPart+1, halfPart+1), zero}, {slices.Repeat(whole(maxPart), 12), zero}, {slices.Repeat(whole(maxPart), 11), frac(maxPart, 1)},
		{[]ratio{frac(1, 20000), frac(1, 20001)}, frac(40001, 800040000)}, {[]ratio{frac(1, 30000), frac(1, 30001)}, zero}, {[]ratio{frac(1, 31623), frac(1, 31624)}, zero}, {[]ratio{frac(1, maxPart), frac(0, 1)}, zero}, {[]ratio{frac(-1, maxPart), frac(0, 1)}, zero}, {[]ratio{frac(1, halfPart), frac(0, 1)}, frac(1, maxPart)}, {[]ratio{frac(0, 1), frac(1, halfPart+1)}, zero}, {[]ratio{frac(1, maxPart), frac(1, maxPart)}, frac(1, maxPart)}, {[]ratio{frac(1, maxPart), frac(-1, maxPart)}, frac(0, 1)}, {[]ratio{frac(3, maxPart), frac(-1, maxPart)}, frac(1, maxPart)}, {near[:2], zero}, {[]ratio{near[0], near[2]}, zero},
		// Of others than the middle ones no sum is made.
		{whole(maxPart, maxPart, 1, 2, -maxPart, -maxPart), frac(3, 2)}, {whole(1, maxPart, maxPart), frac(maxPart, 1)}, {whole(1, maxPart, maxPart, maxPart), zero}, {whole(-maxPart, -maxPart, -maxPart, 5, 5), frac(-maxPart, 1)}, {[]ratio{frac(1, maxPart), frac(1, 2), frac(1, 3)}, frac(1, 3)}, {append(near, frac(-1, 1), frac(2, 1)), frac(999999999, maxPart)},
		{nil, zero}, {[]ratio{}, zero}, {make0(13), zero}, {make0(100000), zero}, {make([]ratio, 1), zero}, {make([]ratio, 3), zero}, {[]ratio{frac(1, 1), zero}, zero}, {[]ratio{frac(2, 4)}, zero}, {[]ratio{frac(0, 1), frac(5, 1), frac(0, 2)}, zero}, {[]ratio{frac(2, 4), frac(5, 1), frac(0, 1)}, zero}, {[]ratio{frac(0, 1), frac(1, -1), frac(5, 1)}, zero}, {whole(maxPart+1, 0, 1), zero}, {whole(1, 2, -maxPart-1), zero}, {whole(math.MinInt64), zero}, {[]ratio{frac(1, maxPart+1)}, zero},
	}
}

func TestMiddleTells(t *testing.T) {
	for _, c := range middleCases() {
		if got, is := impl.Middle(c.list); is != (c.want != zero) || got != c.want {
			t.Errorf("Middle(%v): %v %v, not %v", c.list, got, is, c.want)
		}
		checkNumbers(t, c.list)
	}
}

func spreadCases() []middleCase {
	return []middleCase{
		{whole(5, 1, 2, 50), frac(2, 1)}, {whole(1, 2, 4), frac(1, 1)}, {whole(4, 1, 2), frac(1, 1)}, {whole(-5, -1, 0), frac(1, 1)}, {whole(5, 1, 0), frac(1, 1)}, {whole(-3, 5), frac(4, 1)}, {whole(1, 2), frac(1, 2)}, {[]ratio{frac(1, 2), frac(1, 3), frac(1, 4)}, frac(1, 12)}, {[]ratio{frac(-1, 2), frac(-1, 3), frac(-1, 4)}, frac(1, 12)}, {whole(0, 3, 4, 9), frac(2, 1)}, {whole(0, 1, 5, 9, 10), frac(4, 1)},
		// One; twelve; alike ones, so that it is 0 beside others.
		{whole(7), frac(0, 1)}, {whole(maxPart), frac(0, 1)}, {[]ratio{frac(1, maxPart)}, frac(0, 1)}, {countedTo(12), frac(3, 1)}, {countedTo(11), frac(3, 1)}, {make0(12), frac(0, 1)}, {whole(2, 2), frac(0, 1)}, {whole(0, 9, 0, 0), frac(0, 1)}, {whole(3, 3, 9), frac(0, 1)}, {whole(3, 9, 9), frac(0, 1)}, {whole(1, 1, 3, 3), frac(1, 1)}, {whole(-maxPart, 4, 4, 4, maxPart-100), zero}, {whole(-maxPart, 0, 0, 0, maxPart), frac(0, 1)},
		// Middle is too great, or half of it.
		{whole(maxPart, maxPart), zero}, {whole(maxPart, 1), zero}, {[]ratio{frac(1, maxPart), frac(0, 1)}, zero},
		// Just a fraction; a distance that is too great, be it not the middle one: by N at either end, by D.
		{whole(-maxPart, 0, maxPart), frac(maxPart, 1)}, {whole(maxPart, -maxPart, 0, 0, 0), frac(0, 1)}, {whole(-maxPart, 1, maxPart), zero}, {whole(-maxPart, -1, maxPart), zero}, {whole(1-maxPart, 1, maxPart), frac(maxPart-1, 1)}, {whole(-maxPart, -1, maxPart-1), frac(maxPart-1, 1)}, {whole(-maxPart, 1, 1, 1, 2), zero}, {whole(-2, -1, -1, -1, maxPart), zero}, {[]ratio{frac(1, maxPart), frac(1, 3), frac(1, 1)}, zero}, {[]ratio{frac(1, maxPart), frac(0, 1), frac(1, 1)}, frac(1, maxPart)}, {[]ratio{frac(1, maxPart), frac(0, 1), frac(0, 1)}, frac(0, 1)}, {[]ratio{frac(-1, 1), frac(0, 1), frac(1, maxPart)}, frac(1, maxPart)}, {[]ratio{frac(1, 3), frac(1, 3), frac(1, 3), frac(1, 3), frac(1, maxPart)}, zero}, {[]ratio{frac(1, 31622), frac(1, 31621), frac(1, 31621)}, frac(0, 1)}, {[]ratio{frac(1, 31623), frac(1, 31624), frac(1, 31624)}, zero},
		// The sum of the middle distances is too great, also where its half would be right; the half alone.
		{whole(-maxPart, -maxPart, maxPart, maxPart), zero}, {whole(-maxPart, maxPart), zero}, {whole(-halfPart, halfPart), frac(halfPart, 1)}, {whole(-halfPart-1, halfPart+1), zero}, {whole(-halfPart, halfPart+2), zero}, {whole(-maxPart, 0, 0, maxPart), frac(halfPart, 1)}, {whole(-maxPart, -1, 1, maxPart), zero}, {whole(1-maxPart, -1, 1, maxPart-1), frac(halfPart, 1)},
		{[]ratio{frac(-1, maxPart), frac(0, 1), frac(0, 1), frac(1, 1)}, zero}, {[]ratio{frac(-1, halfPart), frac(0, 1), frac(0, 1), frac(1, 1)}, frac(1, maxPart)}, {[]ratio{frac(-1, halfPart-1), frac(0, 1), frac(0, 1), frac(1, 1)}, frac(1, maxPart-2)}, {[]ratio{frac(-1, halfPart+1), frac(0, 1), frac(0, 1), frac(1, 1)}, zero}, {[]ratio{frac(0, 1), frac(1, halfPart)}, frac(1, maxPart)},
		{nil, zero}, {[]ratio{}, zero}, {make0(13), zero}, {make0(100000), zero}, {make([]ratio, 1), zero}, {make([]ratio, 12), zero}, {[]ratio{frac(2, 4)}, zero}, {[]ratio{frac(0, 1), frac(0, 1), frac(0, 2)}, zero}, {[]ratio{zero, frac(0, 1), frac(0, 1)}, zero}, {whole(maxPart+1, maxPart, maxPart), zero}, {whole(math.MinInt64, 0, 0), zero},
	}
}

func TestSpreadTells(t *testing.T) {
	for _, c := range spreadCases() {
		if got, is := impl.Spread(c.list); is != (c.want != zero) || got != c.want {
			t.Errorf("Spread(%v): %v %v, not %v", c.list, got, is, c.want)
		}
		checkNumbers(t, c.list)
	}
}

type outsideCase struct {
	list  []ratio
	times int64
	want  []int64
}

func outsideCases() []outsideCase {
	five, steep := whole(8, 0, 2, 1, 3), []ratio{frac(-400000001, 1000), frac(0, 1), frac(900000000, 1)}
	return []outsideCase{
		{whole(5, 1, 2, 50), 3, []int64{3}}, {whole(50, 1, 2, 5), 3, []int64{0}}, {five, 3, []int64{0}}, {whole(0, 50, 2, -50, 1), 10, []int64{1, 3}}, {whole(-50, 5, 1, 2), 3, []int64{0}}, {[]ratio{frac(1, 2), frac(1, 3), frac(1, 4), frac(9, 1)}, 20, []int64{3}},
		// A distance that is just so many times their Spread; below Middle, and above it.
		{five, 6, nil}, {five, 5, []int64{0}}, {five, 2, []int64{0}}, {five, 1, []int64{0, 1}}, {whole(-4, 2, 4, 3, 1), 6, nil}, {whole(-4, 2, 4, 3, 1), 5, []int64{0}}, {whole(1, 2, 4), 1, []int64{2}}, {whole(1, 2, 4), 2, nil}, {[]ratio{frac(0, 1), frac(1, 3), frac(1, 2)}, 1, []int64{0}}, {[]ratio{frac(0, 1), frac(1, 3), frac(1, 2)}, 2, nil}, {whole(-2, 0, 2), 1, nil}, {[]ratio{frac(0, 1), frac(1, 1), frac(2, 1), frac(400000001, 100000000)}, 2, []int64{3}}, {[]ratio{frac(-1, 1), frac(0, 1), frac(1, 1), frac(300000000, 299999999), frac(-2, 1)}, 1, []int64{3, 4}},
		// times 0 and 100; beside the limits.
		{five, 0, []int64{0, 1, 3, 4}}, {whole(5, 1, 2, 50), 0, []int64{0, 1, 2, 3}}, {whole(1, 2, 3), 0, []int64{0, 2}}, {whole(4, 4, 4, 5), 0, []int64{3}}, {whole(0, 1, 2, 3, 102), 100, nil}, {whole(0, 1, 2, 3, 102), 99, []int64{4}}, {whole(0, 1, 2, 3, 103), 100, []int64{4}}, {whole(0, 1, 2, 3, -99), 100, nil}, {whole(0, 1, 2, 3, -99), 99, []int64{4}}, {whole(0, 1, 2, 3, -100), 100, []int64{4}}, {whole(0, 1, 2, 3, 999), 101, nil}, {whole(0, 1, 2, 3, 999), -1, nil}, {whole(0, 1, 2, 3, 999), -100, nil}, {whole(0, 1, 2, 3, 999), math.MaxInt64, nil}, {whole(0, 1, 2, 3, 999), math.MinInt64, nil}, {whole(0, 1, 2, 3, 999), 1 << 32, nil}, {whole(0, 1, 2, 3, 999), 1<<32 + 1, nil},
		// A Spread that is 0: all that are not just Middle, times whatever.
		{whole(1, 1, 5, 1), 0, []int64{2}}, {whole(1, 1, 5, 1), 1, []int64{2}}, {whole(1, 1, 5, 1), 100, []int64{2}}, {[]ratio{frac(0, 1), frac(1, maxPart), frac(0, 1), frac(0, 1)}, 100, []int64{1}}, {whole(1, 1, 5, 1), 101, nil}, {whole(1, 1, 5, 1), -1, nil}, {whole(-maxPart, 0, 0, 0, maxPart), 100, []int64{0, 4}}, {whole(9, 0, 8, 0, 7, 0, 6, 0, 5, 0, 0, 0), 7, []int64{0, 2, 4, 6, 8}}, {make0(12), 0, nil}, {make0(12), 100, nil}, {whole(7), 0, nil}, {whole(7), 100, nil}, {whole(2, 2), 0, nil},
		// Twelve; both of two lie as far off as their Spread.
		{append(countedTo(11), frac(99, 1)), 5, []int64{11}}, {append(whole(99), countedTo(11)...), 5, []int64{0}}, {whole(1, 2), 0, []int64{0, 1}}, {whole(1, 2), 1, nil}, {countedTo(12), 1, []int64{0, 1, 2, 9, 10, 11}}, {countedTo(12), 2, nil}, {countedTo(12), 0, []int64{0, 1, 2, 3, 4, 5, 6, 7, 8, 9, 10, 11}},
		// So many times their Spread is too great, or just a fraction.
		{steep, 0, []int64{0, 2}}, {steep, 1, []int64{2}}, {steep, 2, []int64{2}}, {steep, 3, nil}, {steep, 100, []int64{2}}, {steep, 99, nil}, {whole(-maxPart, 0, maxPart), 0, []int64{0, 2}}, {whole(-maxPart, 0, maxPart), 1, nil}, {whole(-maxPart, 0, maxPart), 2, nil}, {whole(-10000000, 0, 10000001), 100, nil}, {[]ratio{frac(-10000001, 7), frac(0, 1), frac(maxPart, 1)}, 99, []int64{2}}, {[]ratio{frac(-10000001, 7), frac(0, 1), frac(maxPart, 1)}, 100, nil}, {[]ratio{frac(-10000000, 7), frac(0, 1), frac(maxPart, 1)}, 100, []int64{2}}, {[]ratio{frac(-1, maxPart), frac(0, 1), frac(101, maxPart)}, 100, []int64{2}}, {[]ratio{frac(-1, maxPart), frac(0, 1), frac(1, 10000000)}, 100, nil},
		// Middle, a distance, or their Spread is too great.
		{whole(maxPart, maxPart), 0, nil}, {whole(maxPart, maxPart-1, 1, maxPart), 0, nil}, {whole(-maxPart, 1, 1, 1, 2), 0, nil}, {whole(-maxPart, 1, 1, 1, 2), 3, nil}, {whole(-maxPart, -maxPart, maxPart, maxPart), 0, nil}, {[]ratio{frac(1, 3), frac(1, 3), frac(1, 3), frac(1, maxPart)}, 0, nil}, {[]ratio{frac(-1, maxPart), frac(0, 1), frac(0, 1), frac(1, 1)}, 0, nil},
		{nil, 0, nil}, {[]ratio{}, 3, nil}, {countedTo(13), 0, nil}, {make0(100000), 0, nil}, {make([]ratio, 3), 0, nil}, {[]ratio{frac(1, 1), frac(2, 4), frac(9, 1)}, 0, nil}, {[]ratio{zero, frac(1, 1), frac(9, 1)}, 0, nil}, {whole(0, 1, 2, 3, maxPart+1), 0, nil}, {whole(math.MinInt64, 0, 0), 0, nil},
	}
}

func TestOutsideTells(t *testing.T) {
	for _, c := range outsideCases() {
		if got := impl.Outside(c.list, c.times); !slices.Equal(got, c.want) {
			t.Errorf("Outside(%v, %d): %v, not %v", c.list, c.times, got, c.want)
		}
		checkOutside(t, c.list, c.times)
		checkNumbers(t, c.list)
	}
}

// sides are how many lie below v, and how many above it.
func sides(list []ratio, v ratio) (int, int) {
	less, more := 0, 0
	for _, r := range list {
		if impl.Less(r, v) {
			less++
		}
		if impl.Less(v, r) {
			more++
		}
	}
	return less, more
}

// Promise 11: Middle has no less on either side: with those that it is, half of all or more. An odd number of them
// have it among them, an even number have none between it and either middle one.
func TestMiddleHasNoLessOnEitherSide(t *testing.T) {
	told := map[int]int{}
	look := func(list []ratio) {
		middle, is := impl.Middle(list)
		if !is {
			return
		}
		less, more := sides(list, middle)
		if 2*less > len(list) || 2*more > len(list) || len(list)%2 == 1 && !slices.Contains(list, middle) {
			t.Fatalf("Middle(%v): %v has %d and %d", list, middle, less, more)
		}
		if !slices.Contains(list, middle) {
			below, above := frac(-maxPart, 1), frac(maxPart, 1)
			for _, r := range list {
				if impl.Less(r, middle) && impl.Less(below, r) {
					below = r
				}
				if impl.Less(middle, r) && impl.Less(r, above) {
					above = r
				}
			}
			if got, _ := fitted(half(below, above)); less != more || got != middle {
				t.Fatalf("Middle(%v): %v is not between %v and %v", list, middle, below, above)
			}
		}
		told[len(list)]++
	}
	for _, c := range middleCases() {
		look(c.list)
	}
	chanceAgreements(115, 600, func(_ *rand.Rand, _ []interval, numbers []ratio) {
		look(numbers)
		distances := []ratio{}
		middle, _ := impl.Middle(numbers)
		for _, r := range numbers {
			d, _ := fitted(distance(r, ratio{N: middle.N, D: max(middle.D, 1)}))
			distances = append(distances, d)
		}
		look(distances)
	})
	for n := 1; n <= 12; n++ {
		if told[n] < 200 {
			t.Error("too few", told)
		}
	}
}

// everyRow are all rows of n whole numbers from 0 to most.
func everyRow(n int, most int64, tell func([]ratio)) {
	row := make([]ratio, n)
	var fill func(int)
	fill = func(i int) {
		if i == n {
			tell(row)
			return
		}
		for v := range most + 1 {
			row[i] = frac(v, 1)
			fill(i + 1)
		}
	}
	fill(0)
}

// All small rows, in whatever order their numbers stand.
func TestSmallNumbers(t *testing.T) {
	for n, most := range []int64{1: 3, 2: 6, 3: 5, 4: 4, 5: 3, 6: 2, 7: 1} {
		everyRow(n, most, func(row []ratio) {
			checkMiddle(t, row)
			checkSpreadOf(t, row)
			for times := int64(0); times <= 4; times++ {
				checkOutside(t, row, times)
			}
		})
	}
}

// Those that are outside change their places with the others, and nothing else changes.
func TestNumbersInWhateverOrder(t *testing.T) {
	chance := rand.New(rand.NewSource(116))
	for _, c := range slices.Concat(middleCases(), spreadCases()) {
		if len(c.list) > 12 {
			continue
		}
		middle, middleIs := impl.Middle(c.list)
		spread, spreadIs := impl.Spread(c.list)
		outside := impl.Outside(c.list, 2)
		for range 20 {
			order := chance.Perm(len(c.list))
			var list []ratio
			var want []int64
			for i, from := range order {
				list = append(list, c.list[from])
				if slices.Contains(outside, int64(from)) {
					want = append(want, int64(i))
				}
			}
			got, is := impl.Middle(list)
			gotSpread, spreadToo := impl.Spread(list)
			if got != middle || is != middleIs || gotSpread != spread || spreadToo != spreadIs || !slices.Equal(impl.Outside(list, 2), want) {
				t.Fatalf("%v and %v differ", c.list, list)
			}
		}
	}
}

func TestNumbersByChance(t *testing.T) {
	middles, spreads, outside := map[bool]int{}, map[bool]int{}, map[int]int{}
	chanceAgreements(117, 500, func(chance *rand.Rand, _ []interval, numbers []ratio) {
		checkNumbers(t, numbers)
		middles[checkMiddle(t, numbers)]++
		spreads[checkSpreadOf(t, numbers)]++
		outside[checkOutside(t, numbers, chance.Int63n(5))]++
	})
	if min(middles[true], middles[false], spreads[true], spreads[false]) < 200 || min(outside[0], outside[1], outside[2], outside[3], outside[4]) < 100 {
		t.Error("too few", middles, spreads, outside)
	}
}
