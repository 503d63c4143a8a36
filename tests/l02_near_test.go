package tests

import (
	"math"
	"math/rand"
	"slices"
	"testing"

	"loop.example/g00069/impl"
)

// smallRatios are all fractions with an N from -most to most and a D up to most.
func smallRatios(most int64) []ratio {
	var list []ratio
	for n := -most; n <= most; n++ {
		for d := int64(1); d <= most; d++ {
			if r := frac(n, d); isExact(r) {
				list = append(list, r)
			}
		}
	}
	return list
}

func repeated(term int64, times int) []int64 { return slices.Repeat([]int64{term}, times) }

func TestTermsTell(t *testing.T) {
	for _, c := range []struct {
		a    ratio
		want []int64
	}{
		{frac(355, 113), []int64{3, 7, 16}}, {frac(-355, 113), []int64{-4, 1, 6, 16}},
		{frac(0, 1), []int64{0}}, {frac(5, 1), []int64{5}}, {frac(-5, 1), []int64{-5}},
		{frac(1, 2), []int64{0, 2}}, {frac(-1, 2), []int64{-1, 2}}, {frac(3, 2), []int64{1, 2}}, {frac(-3, 2), []int64{-2, 2}},
		{frac(maxPart, 1), []int64{maxPart}}, {frac(-maxPart, 1), []int64{-maxPart}},
		{frac(1, maxPart), []int64{0, maxPart}}, {frac(-1, maxPart), []int64{-1, 1, maxPart - 1}},
		{frac(maxPart, maxPart-1), []int64{1, maxPart - 1}}, {frac(-maxPart, maxPart-1), []int64{-2, 1, maxPart - 2}},
		{frac(maxPart-1, maxPart), []int64{0, 1, maxPart - 1}}, {frac(1-maxPart, maxPart), []int64{-1, maxPart}},
		// Fibonacci's numbers: as many terms as there can be.
		{frac(701408733, 433494437), append(repeated(1, 41), 2)},
		{frac(433494437, 701408733), append([]int64{0}, append(repeated(1, 41), 2)...)},
		{frac(-267914296, 701408733), append([]int64{-1}, append(repeated(1, 41), 2)...)},
	} {
		if got := impl.Terms(c.a); !slices.Equal(got, c.want) {
			t.Errorf("Terms(%v): %v, not %v", c.a, got, c.want)
		}
		if got, is := impl.FromTerms(c.want); !is || got != c.a {
			t.Errorf("FromTerms(%v): %v %v, not %v", c.want, got, is, c.a)
		}
	}
}

func TestTermsAreExact(t *testing.T) {
	for _, a := range append(someRatios(), smallRatios(25)...) {
		got := impl.Terms(a)
		if !slices.Equal(got, exactTerms(a)) {
			t.Fatalf("Terms(%v): %v", a, got)
		}
		if back, is := impl.FromTerms(got); !is || back != a {
			t.Fatalf("FromTerms of Terms of %v: %v %v", a, back, is)
		}
	}
}

func TestFromTermsTells(t *testing.T) {
	for _, c := range []struct {
		list []int64
		want ratio
		is   bool
	}{
		{[]int64{3, 7, 16}, frac(355, 113), true}, {[]int64{0}, frac(0, 1), true}, {[]int64{-3}, frac(-3, 1), true},
		{[]int64{0, 3}, frac(1, 3), true}, {[]int64{-2, 3}, frac(-5, 3), true},
		// A last term of 1 is none that Terms tells, but nothing refuses it.
		{[]int64{3, 1}, frac(4, 1), true}, {[]int64{-1, 1}, frac(0, 1), true}, {[]int64{0, 1, 1}, frac(1, 2), true},
		{nil, zero, false}, {[]int64{}, zero, false},
		{[]int64{3, 0}, zero, false}, {[]int64{3, -1}, zero, false}, {[]int64{0, 0}, zero, false}, {[]int64{0, -1}, zero, false},
		{[]int64{3, 0, 2}, zero, false}, {[]int64{3, 2, 0}, zero, false}, {[]int64{3, -2, 5}, zero, false}, {[]int64{3, 5, -2}, zero, false},
		{[]int64{1, 2, 3, 4, 5, 0, 7}, zero, false}, {[]int64{3, math.MinInt64}, zero, false}, {[]int64{3, 2, math.MinInt64, 2}, zero, false},
		{[]int64{maxPart}, frac(maxPart, 1), true}, {[]int64{maxPart + 1}, zero, false},
		{[]int64{-maxPart}, frac(-maxPart, 1), true}, {[]int64{-maxPart - 1}, zero, false},
		{[]int64{0, maxPart}, frac(1, maxPart), true}, {[]int64{0, maxPart + 1}, zero, false},
		{[]int64{1, maxPart}, zero, false}, {[]int64{-1, maxPart}, frac(1-maxPart, maxPart), true},
		{[]int64{1, maxPart - 1}, frac(maxPart, maxPart-1), true}, {[]int64{0, 1, maxPart}, zero, false},
		{[]int64{0, 1, maxPart - 1}, frac(maxPart-1, maxPart), true},
		{[]int64{maxPart - 1, 1}, frac(maxPart, 1), true}, {[]int64{maxPart, 1}, zero, false}, {[]int64{maxPart, 2}, zero, false},
		{[]int64{0, maxPart - 1, 1}, frac(1, maxPart), true}, {[]int64{0, maxPart, 1}, zero, false},
		// The answer would be right, but what the first term is added as is no fraction.
		{[]int64{-maxPart - 1, 1}, zero, false},
		{[]int64{-maxPart, 1}, frac(1-maxPart, 1), true}, {[]int64{-maxPart, 2}, zero, false},
		{[]int64{0, 31622, 31622}, frac(31622, 999950885), true}, {[]int64{0, 31623, 31623}, zero, false},
		{[]int64{math.MaxInt64}, zero, false}, {[]int64{math.MinInt64}, zero, false},
		{[]int64{math.MaxInt64, 1}, zero, false}, {[]int64{math.MinInt64, 1}, zero, false}, {[]int64{0, math.MaxInt64}, zero, false},
		{[]int64{0, math.MaxInt64, math.MaxInt64}, zero, false}, {[]int64{0, 1 << 32, 1 << 32}, zero, false},
		{[]int64{0, twoTo62, 4}, zero, false}, {[]int64{1 << 32, 1 << 32}, zero, false}, {[]int64{-1 << 32, 1 << 32, 1 << 32}, zero, false},
	} {
		if got, is := impl.FromTerms(c.list); got != c.want || is != c.is {
			t.Errorf("FromTerms(%v): %v %v", c.list, got, is)
		}
	}
}

// Of ones, whose fractions grow least, 43 are what fits, and 44 with a first one of 0. 60 are not too many, but too great.
func TestFromTermsOfManyOnes(t *testing.T) {
	for _, first := range []int64{-1, 0, 1, 2} {
		for n := 0; n <= 200; n++ {
			list := append([]int64{first}, repeated(1, n)...)
			want, wantIs := exactFromTerms(list)
			if got, is := impl.FromTerms(list); got != want || is != wantIs {
				t.Errorf("FromTerms of %d and %d ones: %v %v, not %v %v", first, n, got, is, want, wantIs)
			}
		}
	}
	for _, c := range []struct {
		list []int64
		want ratio
		is   bool
	}{
		{repeated(1, 43), frac(701408733, 433494437), true}, {repeated(1, 44), zero, false},
		{append([]int64{0}, repeated(1, 43)...), frac(433494437, 701408733), true},
		{append([]int64{0}, repeated(1, 44)...), zero, false},
		{append([]int64{0}, repeated(1, 59)...), zero, false}, {repeated(1, 60), zero, false},
		{append([]int64{0}, repeated(1, 60)...), zero, false}, {repeated(1, 61), zero, false},
		{repeated(0, 60), zero, false}, {repeated(1, 100000), zero, false},
		{repeated(math.MaxInt64, 60), zero, false}, {repeated(math.MinInt64, 61), zero, false},
	} {
		if got, is := impl.FromTerms(c.list); got != c.want || is != c.is {
			t.Errorf("FromTerms of %d terms from %d on: %v %v", len(c.list), c.list[0], got, is)
		}
	}
}

// Every list of up to five small numbers, those that are refused among them.
func TestFromTermsOfShortLists(t *testing.T) {
	lists := [][]int64{nil}
	for from := 0; from < len(lists); from++ {
		list := lists[from]
		want, wantIs := exactFromTerms(list)
		if got, is := impl.FromTerms(list); got != want || is != wantIs {
			t.Fatalf("FromTerms(%v): %v %v, not %v %v", list, got, is, want, wantIs)
		}
		for term := int64(-2); len(list) < 5 && term <= 4; term++ {
			lists = append(lists, append(slices.Clone(list), term))
		}
	}
}

func TestConvergentsTell(t *testing.T) {
	for _, c := range []struct {
		a    ratio
		want []ratio
	}{
		{frac(355, 113), []ratio{frac(3, 1), frac(22, 7), frac(355, 113)}},
		{frac(0, 1), []ratio{frac(0, 1)}}, {frac(-7, 1), []ratio{frac(-7, 1)}},
		{frac(2, 3), []ratio{frac(0, 1), frac(1, 1), frac(2, 3)}},
		{frac(-2, 3), []ratio{frac(-1, 1), frac(-2, 3)}},
		{frac(-1, maxPart), []ratio{frac(-1, 1), frac(0, 1), frac(-1, maxPart)}},
		{frac(maxPart, 1), []ratio{frac(maxPart, 1)}}, {frac(-maxPart, 1), []ratio{frac(-maxPart, 1)}},
		{frac(-maxPart, 3), []ratio{frac(-333333334, 1), frac(-333333333, 1), frac(-maxPart, 3)}},
		{frac(maxPart-1, maxPart), []ratio{frac(0, 1), frac(1, 1), frac(maxPart-1, maxPart)}},
	} {
		if got := impl.Convergents(c.a); !slices.Equal(got, c.want) {
			t.Errorf("Convergents(%v): %v", c.a, got)
		}
	}
}

func TestConvergentsAreOfTheFirstTerms(t *testing.T) {
	for _, a := range append(someRatios(), smallRatios(20)...) {
		terms, got := exactTerms(a), impl.Convergents(a)
		if len(got) != len(terms) || got[len(got)-1] != a {
			t.Fatalf("Convergents(%v): %v", a, got)
		}
		for i, x := range got {
			if want, is := exactFromTerms(terms[:i+1]); !is || x != want {
				t.Fatalf("Convergents(%v): %v at %d, not %v", a, x, i, want)
			}
			// Each lies on the other side than the one ahead of it, and from the second on none is nearer.
			if x != a && below(x, a) != (i%2 == 0) {
				t.Fatalf("Convergents(%v): %v at %d is on the wrong side", a, x, i)
			}
			if near, _ := impl.Nearest(a, x.D); i > 0 && near != x {
				t.Fatalf("Convergents(%v): %v at %d, but nearer is %v", a, x, i, near)
			}
		}
	}
}

func TestNearestTells(t *testing.T) {
	half := int64(maxPart / 2)
	for _, c := range []struct {
		a    ratio
		most int64
		want ratio
		is   bool
	}{
		{frac(355, 113), 10, frac(22, 7), true}, {frac(355, 113), 112, frac(333, 106), true}, {frac(355, 113), 113, frac(355, 113), true},
		{frac(355, 113), 1, frac(3, 1), true}, {frac(-355, 113), 10, frac(-22, 7), true}, {frac(355, 113), maxPart, frac(355, 113), true},
		// Two as near: the one with the less D.
		{frac(5, 12), 4, frac(1, 2), true}, {frac(-5, 12), 4, frac(-1, 2), true}, {frac(1, 4), 3, frac(1, 3), true},
		{frac(1, 4), 2, frac(0, 1), true}, {frac(-1, 4), 2, frac(0, 1), true}, {frac(3, 4), 2, frac(1, 1), true},
		{frac(7, 4), 2, frac(2, 1), true}, {frac(-7, 4), 2, frac(-2, 1), true}, {frac(5, 4), 2, frac(1, 1), true},
		{frac(39999, 799960000), 20000, frac(1, 19999), true}, {frac(39999, 799960000), 39998, frac(1, 19999), true},
		{frac(-39999, 799960000), 39998, frac(-1, 19999), true}, {frac(39999, 799960000), 39999, frac(2, 39999), true},
		{frac(1, maxPart), half, frac(0, 1), true}, {frac(-1, maxPart), half, frac(0, 1), true},
		{frac(1, maxPart), half + 1, frac(1, half+1), true}, {frac(-1, maxPart), half + 1, frac(-1, half+1), true},
		// Two as near with one D, which is 1: the less one.
		{frac(1, 2), 1, frac(0, 1), true}, {frac(-1, 2), 1, frac(-1, 1), true}, {frac(7, 2), 1, frac(3, 1), true}, {frac(-7, 2), 1, frac(-4, 1), true},
		{frac(maxPart-1, 2), 1, frac(half-1, 1), true}, {frac(1-maxPart, 2), 1, frac(-half, 1), true},
		{frac(2, 3), 1, frac(1, 1), true}, {frac(1, 3), 1, frac(0, 1), true}, {frac(-2, 3), 1, frac(-1, 1), true}, {frac(-1, 3), 1, frac(0, 1), true},
		{frac(0, 1), 1, frac(0, 1), true}, {frac(0, 1), maxPart, frac(0, 1), true}, {frac(9, 1), 1, frac(9, 1), true}, {frac(-9, 1), 7, frac(-9, 1), true},
		{frac(maxPart, 1), 1, frac(maxPart, 1), true}, {frac(-maxPart, 1), maxPart, frac(-maxPart, 1), true},
		{frac(1, maxPart), maxPart, frac(1, maxPart), true}, {frac(1, maxPart), maxPart - 1, frac(1, maxPart-1), true}, {frac(1, maxPart), 1, frac(0, 1), true},
		{frac(maxPart, maxPart-1), maxPart - 2, frac(maxPart-1, maxPart-2), true}, {frac(maxPart, maxPart-1), 1, frac(1, 1), true},
		{frac(maxPart-1, maxPart), maxPart - 1, frac(maxPart-2, maxPart-1), true}, {frac(1-maxPart, maxPart), 1, frac(-1, 1), true},
		{frac(maxPart, 3), 2, frac(666666667, 2), true}, {frac(-maxPart, 3), 2, frac(-666666667, 2), true},
		{frac(355, 113), 0, zero, false}, {frac(355, 113), -1, zero, false}, {frac(355, 113), maxPart + 1, zero, false},
		{frac(5, 1), 0, zero, false}, {frac(5, 1), maxPart + 1, zero, false}, {frac(0, 1), -maxPart, zero, false},
		{frac(1, 2), math.MaxInt64, zero, false}, {frac(1, 2), math.MinInt64, zero, false},
	} {
		if got, is := impl.Nearest(c.a, c.most); got != c.want || is != c.is {
			t.Errorf("Nearest(%v, %d): %v %v, not %v %v", c.a, c.most, got, is, c.want, c.is)
		}
	}
}

func TestNearestAgainstEveryFraction(t *testing.T) {
	for _, a := range smallRatios(24) {
		for most := int64(1); most <= 26; most++ {
			if got, is := impl.Nearest(a, most); !is || got != searchNearest(a, most) {
				t.Fatalf("Nearest(%v, %d): %v %v, not %v", a, most, got, is, searchNearest(a, most))
			}
		}
	}
}

// Half way between two neighbours both are as near, as long as nothing with so small a D lies between them.
func TestNearestHalfWay(t *testing.T) {
	ties := 0
	for _, x := range smallRatios(20) {
		y := neighbour(x, 1, 20)
		a, is := fitted(half(x, y))
		for most := max(x.D, y.D); is && most < min(x.D+y.D, a.D); most++ {
			want := x
			if y.D < x.D {
				want = y
			}
			if got, _ := impl.Nearest(a, most); got != want {
				t.Fatalf("Nearest(%v, %d): %v, not %v", a, most, got, want)
			}
			ties++
		}
	}
	if ties < 100 {
		t.Fatal("too few ties", ties)
	}
}

func TestNearestOfGreatParts(t *testing.T) {
	chance := rand.New(rand.NewSource(2))
	for _, a := range someRatios() {
		for _, most := range []int64{1, 2, 3, 10, a.D - 1, a.D, a.D + 1, a.D / 2, a.D/2 + 1, maxPart - 1, maxPart} {
			checkNearest(t, a, most)
		}
		for range 100 {
			checkNearest(t, a, chance.Int63n(maxPart)>>chance.Intn(30)+1)
		}
	}
}

func TestBetweenTells(t *testing.T) {
	for _, c := range []struct {
		a, b ratio
		want ratio
		is   bool
	}{
		{frac(1, 3), frac(2, 5), frac(3, 8), true}, {frac(-2, 5), frac(-1, 3), frac(-3, 8), true},
		{frac(-7, 2), frac(-1, 2), frac(-1, 1), true}, {frac(1, 2), frac(7, 2), frac(1, 1), true},
		{frac(5, 2), frac(99, 2), frac(3, 1), true}, {frac(-99, 2), frac(-5, 2), frac(-3, 1), true},
		{frac(2, 1), frac(9, 1), frac(3, 1), true}, {frac(-9, 1), frac(-2, 1), frac(-3, 1), true},
		{frac(2, 1), frac(3, 1), frac(5, 2), true}, {frac(-3, 1), frac(-2, 1), frac(-5, 2), true},
		// With N of either sign, and as far from 0 on both sides.
		{frac(-1, 2), frac(1, 2), frac(0, 1), true}, {frac(-3, 1), frac(3, 1), frac(0, 1), true}, {frac(-9, 1), frac(1, maxPart), frac(0, 1), true},
		{frac(-1, maxPart), frac(1, maxPart), frac(0, 1), true}, {frac(-maxPart, 1), frac(maxPart, 1), frac(0, 1), true},
		{frac(0, 1), frac(1, 1), frac(1, 2), true}, {frac(-1, 1), frac(0, 1), frac(-1, 2), true}, {frac(0, 1), frac(2, 1), frac(1, 1), true},
		{frac(-2, 1), frac(0, 1), frac(-1, 1), true}, {frac(0, 1), frac(1, 7), frac(1, 8), true}, {frac(-1, 7), frac(0, 1), frac(-1, 8), true},
		{frac(-1, 1), frac(1, 1), frac(0, 1), true}, {frac(0, 1), frac(maxPart, 1), frac(1, 1), true}, {frac(-maxPart, 1), frac(0, 1), frac(-1, 1), true},
		{frac(0, 1), frac(1, maxPart-1), frac(1, maxPart), true}, {frac(1-maxPart, 1), frac(-1, 1), frac(-2, 1), true},
		{frac(maxPart-2, 1), frac(maxPart, 1), frac(maxPart-1, 1), true}, {frac(-maxPart, 1), frac(2-maxPart, 1), frac(1-maxPart, 1), true},
		{frac(1, maxPart), frac(1, maxPart-2), frac(1, maxPart-1), true}, {frac(1, maxPart), frac(1, 1), frac(1, 2), true},
		// Neighbours, and what is simplest between them would be no right fraction.
		{frac(0, 1), frac(1, maxPart), zero, false}, {frac(-1, maxPart), frac(0, 1), zero, false},
		{frac(1, maxPart), frac(1, maxPart-1), zero, false}, {frac(-1, maxPart-1), frac(-1, maxPart), zero, false},
		{frac(maxPart-1, 1), frac(maxPart, 1), zero, false}, {frac(-maxPart, 1), frac(1-maxPart, 1), zero, false},
		{frac(maxPart-1, maxPart), frac(1, 1), zero, false}, {frac(1, 1), frac(maxPart, maxPart-1), zero, false},
		{frac(-1, 1), frac(1-maxPart, maxPart), zero, false}, {frac(maxPart/2, 1), frac(maxPart/2+1, 1), zero, false},
		{frac(maxPart/2-1, 1), frac(maxPart/2, 1), frac(maxPart-1, 2), true}, {frac(1, maxPart/2), frac(1, maxPart/2-1), frac(2, maxPart-1), true},
		{frac(1, maxPart/2+1), frac(1, maxPart/2), zero, false}, {frac(maxPart-2, maxPart-1), frac(1, 1), frac(maxPart-1, maxPart), true},
		{frac(1, 2), frac(1, 2), zero, false}, {frac(0, 1), frac(0, 1), zero, false}, {frac(-5, 1), frac(-5, 1), zero, false},
		{frac(1, 2), frac(1, 3), zero, false}, {frac(1, 2), frac(-1, 2), zero, false}, {frac(-1, 3), frac(-1, 2), zero, false},
		{frac(maxPart, 1), frac(maxPart, 1), zero, false}, {frac(maxPart, 1), frac(-maxPart, 1), zero, false}, {frac(3, 1), frac(1, 1), zero, false},
	} {
		if got, is := impl.Between(c.a, c.b); got != c.want || is != c.is {
			t.Errorf("Between(%v, %v): %v %v, not %v %v", c.a, c.b, got, is, c.want, c.is)
		}
	}
}

func TestBetweenAgainstEveryFraction(t *testing.T) {
	list := append(smallRatios(9), frac(40, 1), frac(-40, 1), frac(81, 2), frac(-81, 2), frac(1, 30), frac(-1, 30))
	for _, a := range list {
		for _, b := range list {
			want, wantIs := zero, a.N*b.D < b.N*a.D
			if wantIs {
				want = searchBetween(a, b)
			}
			if got, is := impl.Between(a, b); got != want || is != wantIs {
				t.Fatalf("Between(%v, %v): %v %v, not %v", a, b, got, is, want)
			}
		}
	}
}

func TestBetweenOfGreatParts(t *testing.T) {
	list := someRatios()
	for i, a := range list {
		for _, b := range list {
			checkBetween(t, a, b)
		}
		// Its neighbours far and near, with nothing between that is much simpler.
		for _, most := range []int64{a.D, a.D + 1, 2 * a.D, 31622, maxPart / 2, maxPart - 1, maxPart} {
			if most < a.D || most > maxPart {
				continue
			}
			checkBetween(t, a, neighbour(a, 1, most))
			checkBetween(t, neighbour(a, -1, most), a)
			checkBetween(t, a, list[(i+1)%len(list)])
		}
	}
}
