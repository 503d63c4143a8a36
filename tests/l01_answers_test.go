package tests

import (
	"math/big"
	"strings"
	"testing"

	"loop.example/g00069/impl"
)

// Promise 21 for chapter 1: each function at every pair of edge numbers, the least and the greatest int64 among them.
func TestRatioOkAtEveryArgument(t *testing.T) {
	for _, r := range anyRatios() {
		if got := impl.RatioOk(r); got != isExact(r) {
			t.Errorf("RatioOk(%v): %v", r, got)
		}
	}
}

func TestReducedAtEveryArgument(t *testing.T) {
	limit := big.NewInt(twoTo62)
	for _, r := range anyRatios() {
		n, d := big.NewInt(r.N), big.NewInt(r.D)
		var q *big.Rat
		if d.Sign() != 0 && n.CmpAbs(limit) <= 0 && d.CmpAbs(limit) <= 0 {
			q = new(big.Rat).SetFrac(n, d)
		}
		want, wantIs := fitted(q)
		if got, is := impl.Reduced(r.N, r.D); got != want || is != wantIs {
			t.Errorf("Reduced(%d, %d): %v %v, not %v %v", r.N, r.D, got, is, want, wantIs)
		}
	}
}

func TestStepsAtEveryArgument(t *testing.T) {
	list := anyRatios()
	others := append(wrongRatios(), frac(0, 1), frac(1, 1), frac(-1, 2), frac(maxPart, maxPart-1), frac(-maxPart, 1), frac(1, maxPart))
	for _, a := range list {
		for _, b := range others {
			for _, s := range steps() {
				checkStep(t, s, a, b)
				checkStep(t, s, b, a)
			}
			checkLess(t, a, b)
			checkLess(t, b, a)
		}
	}
}

func checkStep(t *testing.T, s step, a ratio, b ratio) {
	x, is1 := exact(a)
	y, is2 := exact(b)
	var q *big.Rat
	if is1 && is2 {
		q = s.exact(x, y)
	}
	want, wantIs := fitted(q)
	if got, is := s.by(a, b); got != want || is != wantIs {
		t.Fatalf("%s(%v, %v): %v %v, not %v %v", s.name, a, b, got, is, want, wantIs)
	}
}

func checkLess(t *testing.T, a ratio, b ratio) {
	x, is1 := exact(a)
	y, is2 := exact(b)
	want := is1 && is2 && x.Cmp(y) < 0
	if got := impl.Less(a, b); got != want {
		t.Fatalf("Less(%v, %v): %v", a, b, got)
	}
}

func TestFloorAndShowRatioAtEveryArgument(t *testing.T) {
	for _, a := range anyRatios() {
		floor, text := int64(0), ""
		if q, is := exact(a); is {
			// Euclid's quotient is the floor, for a divisor above 0.
			floor = new(big.Int).Div(q.Num(), q.Denom()).Int64()
			text = q.RatString()
		}
		if got := impl.Floor(a); got != floor {
			t.Errorf("Floor(%v): %d, not %d", a, got, floor)
		}
		if got := impl.ShowRatio(a); got != text {
			t.Errorf("ShowRatio(%v): %q, not %q", a, got, text)
		}
	}
}

func TestReadRatioAtLongTexts(t *testing.T) {
	for _, s := range []string{"0", "1", "9", "-", "/", "+", " ", "1/", "/1", "\x00", "\xff", "-1/2"} {
		for _, times := range []int{10, 11, 20, 1000, 100000} {
			long := strings.Repeat(s, times)
			got, is := impl.ReadRatio(long)
			if is || got != zero {
				t.Errorf("ReadRatio of %d times %q: %v %v", times, s, got, is)
			}
		}
	}
}

// The same arguments have the same answers, whatever was asked in between: nothing is kept.
func TestFractionsAnswerAlikeAgain(t *testing.T) {
	tell := func() []any {
		var all []any
		for _, a := range rightRatios()[:40] {
			for _, b := range append(wrongRatios(), frac(1, 2), frac(-7, 3), frac(0, 1)) {
				for _, s := range steps() {
					r, is := s.by(a, b)
					all = append(all, r, is)
				}
				r, is := impl.ReadRatio(impl.ShowRatio(b))
				all = append(all, impl.Less(a, b), impl.Floor(b), r, is)
			}
		}
		return all
	}
	first := tell()
	for i, x := range tell() {
		if x != first[i] {
			t.Fatal("another answer", i, x, first[i])
		}
	}
}

// Arguments stay: they are handed in from a list, which is the same behind it.
func TestFractionsLeaveTheirArguments(t *testing.T) {
	list, before := anyRatios(), anyRatios()
	for i := range list {
		next := &list[(i+1)%len(list)]
		for _, s := range steps() {
			s.by(list[i], *next)
		}
		impl.RatioOk(list[i])
		impl.Less(list[i], *next)
		impl.Floor(list[i])
		impl.Reduced(list[i].N, list[i].D)
		impl.ReadRatio(impl.ShowRatio(list[i]))
	}
	for i := range list {
		if list[i] != before[i] {
			t.Fatal("changed", before[i], list[i])
		}
	}
}
