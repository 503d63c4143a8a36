package tests

import (
	"math"
	"math/big"
	"slices"
	"testing"

	"loop.example/g00069/impl"
)

// half is the middle between a and b.
func half(a ratio, b ratio) *big.Rat {
	sum := new(big.Rat).Add(big.NewRat(a.N, a.D), big.NewRat(b.N, b.D))
	return sum.Quo(sum, big.NewRat(2, 1))
}

// Promise 21 for chapter 2: each function at every pair of edge numbers, the least and the greatest int64 among them.
func TestTermsAndConvergentsAtEveryArgument(t *testing.T) {
	for _, a := range anyRatios() {
		terms, list := impl.Terms(a), impl.Convergents(a)
		if !slices.Equal(terms, exactTerms(a)) {
			t.Fatalf("Terms(%v): %v", a, terms)
		}
		if len(list) != len(terms) || len(list) > 0 && list[len(list)-1] != a {
			t.Fatalf("Convergents(%v): %v", a, list)
		}
	}
}

func TestFromTermsAtEveryArgument(t *testing.T) {
	check := func(list ...int64) {
		want, wantIs := exactFromTerms(list)
		if got, is := impl.FromTerms(list); got != want || is != wantIs {
			t.Fatalf("FromTerms(%v): %v %v, not %v %v", list, got, is, want, wantIs)
		}
	}
	for _, x := range edgeNumbers() {
		check(x)
		for _, y := range edgeNumbers() {
			check(x, y)
			for _, z := range edgeNumbers() {
				check(x, y, z)
			}
		}
		for n := 1; n <= 70; n++ {
			check(repeated(x, n)...)
		}
	}
}

func TestNearestAtEveryArgument(t *testing.T) {
	for _, a := range anyRatios() {
		for _, most := range edgeNumbers() {
			checkNearest(t, a, most)
		}
	}
}

func TestBetweenAtEveryArgument(t *testing.T) {
	others := append(rightRatios(), wrongRatios()...)
	for _, a := range anyRatios() {
		if !isExact(a) {
			for _, b := range []ratio{a, zero, frac(0, 1), frac(1, 2), frac(maxPart, 1), frac(-maxPart, 1), frac(math.MinInt64, math.MaxInt64)} {
				checkBetween(t, a, b)
				checkBetween(t, b, a)
			}
			continue
		}
		for _, b := range others {
			checkBetween(t, a, b)
			checkBetween(t, b, a)
		}
	}
}

// A list that is handed in stays, and so does the room behind it; what is answered hangs on neither.
func TestFromTermsLeavesItsList(t *testing.T) {
	for _, list := range [][]int64{{3, 7, 16}, {0}, {-1, 1}, {}, {3, 0}, {3, -7, 16}, {0, 1, maxPart}, {math.MinInt64}, {2, math.MaxInt64},
		repeated(1, 43), repeated(1, 60), repeated(1, 61)} {
		behind := []int64{5, -5, math.MinInt64, math.MaxInt64, 0, 1}
		room := append(slices.Clone(list), behind...)
		before := slices.Clone(room)
		got, is := impl.FromTerms(room[:len(list)])
		if !slices.Equal(room, before) {
			t.Fatalf("FromTerms(%v) left %v", before, room)
		}
		if tight, tightIs := impl.FromTerms(slices.Clip(slices.Clone(list))); tight != got || tightIs != is {
			t.Fatalf("FromTerms(%v): with room behind %v %v, without %v %v", list, got, is, tight, tightIs)
		}
	}
}

func TestNearLeavesItsFractions(t *testing.T) {
	list, before := anyRatios(), anyRatios()
	for i := range list {
		impl.Terms(list[i])
		impl.Convergents(list[i])
		impl.Nearest(list[i], 7)
		impl.Between(list[i], list[(i+1)%len(list)])
	}
	if !slices.Equal(list, before) {
		t.Fatal("a fraction has changed")
	}
}

func TestNearAnswersAreNewMemory(t *testing.T) {
	for _, a := range someRatios() {
		terms, other := impl.Terms(a), impl.Terms(a)
		list, another := impl.Convergents(a), impl.Convergents(a)
		scribbled(terms, 77)
		scribbled(list, frac(77, 1))
		if !slices.Equal(other, exactTerms(a)) || !slices.Equal(impl.Terms(a), other) {
			t.Fatal("the Terms are shared", a)
		}
		if another[len(another)-1] != a || !slices.Equal(impl.Convergents(a), another) {
			t.Fatal("the Convergents are shared", a)
		}
	}
	if len(impl.Terms(zero)) != 0 || len(impl.Convergents(zero)) != 0 {
		t.Fatal("terms of nothing")
	}
}

// The same arguments have the same answers, whatever was asked in between: nothing is kept.
func TestNearAnswersAlikeAgain(t *testing.T) {
	tell := func() []int64 {
		var all []int64
		for _, a := range append(rightRatios(), wrongRatios()...) {
			all = append(all, impl.Terms(a)...)
			for _, x := range impl.Convergents(a) {
				all = append(all, x.N, x.D)
			}
			for _, b := range []ratio{frac(-1, 3), frac(0, 1), frac(maxPart, maxPart-1), zero} {
				x, _ := impl.Between(a, b)
				y, _ := impl.Between(b, a)
				z, _ := impl.Nearest(a, b.D)
				r, _ := impl.FromTerms([]int64{a.N, a.D, b.D})
				all = append(all, x.N, x.D, y.N, y.D, z.N, z.D, r.N, r.D)
			}
		}
		return all
	}
	if !slices.Equal(tell(), tell()) {
		t.Fatal("another answer")
	}
}

// No answer is walked to step by step: a way of MaxPart steps, so often, would take minutes.
func TestNearComesSoon(t *testing.T) {
	great := []ratio{frac(1, maxPart), frac(-1, maxPart), frac(maxPart, 1), frac(-maxPart, 1), frac(maxPart, maxPart-1),
		frac(maxPart-1, maxPart), frac(-maxPart, maxPart-1), frac(maxPart, 3), frac(701408733, 433494437), frac(-267914296, 701408733)}
	soon(t, "chapter 2 at MaxPart", func() {
		for range 1000 {
			for _, a := range great {
				impl.FromTerms(impl.Terms(a))
				impl.Convergents(a)
				for _, most := range []int64{1, maxPart / 2, maxPart - 1, maxPart} {
					impl.Nearest(a, most)
				}
				for _, b := range append(great, frac(0, 1)) {
					impl.Between(a, b)
					impl.Between(b, a)
				}
			}
		}
	})
}
