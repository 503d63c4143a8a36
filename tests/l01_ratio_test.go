package tests

import (
	"math"
	"math/big"
	"math/rand"
	"testing"

	"loop.example/g00069/impl"
)

type step struct {
	name  string
	by    func(ratio, ratio) (ratio, bool)
	exact func(a, b *big.Rat) *big.Rat
}

func steps() []step {
	return []step{
		{"Add", impl.Add, func(a, b *big.Rat) *big.Rat { return new(big.Rat).Add(a, b) }},
		{"Sub", impl.Sub, func(a, b *big.Rat) *big.Rat { return new(big.Rat).Sub(a, b) }},
		{"Mul", impl.Mul, func(a, b *big.Rat) *big.Rat { return new(big.Rat).Mul(a, b) }},
		{"Div", impl.Div, func(a, b *big.Rat) *big.Rat {
			if b.Sign() == 0 {
				return nil
			}
			return new(big.Rat).Quo(a, b)
		}},
	}
}

func TestRatioOkAtTheEdges(t *testing.T) {
	if impl.MaxPart != maxPart {
		t.Fatal(impl.MaxPart)
	}
	for _, r := range []ratio{{N: 0, D: 1}, {N: 1, D: 1}, {N: -3, D: 2}, {N: maxPart, D: 1}, {N: -maxPart, D: 1},
		{N: 1, D: maxPart}, {N: -1, D: maxPart}, {N: maxPart, D: maxPart - 1}, {N: -maxPart, D: maxPart - 1}} {
		if !impl.RatioOk(r) {
			t.Errorf("%v is refused", r)
		}
	}
	for _, r := range wrongRatios() {
		if impl.RatioOk(r) {
			t.Errorf("%v is taken", r)
		}
	}
}

func TestReducedTells(t *testing.T) {
	for _, c := range []struct {
		n, d int64
		want ratio
		is   bool
	}{
		{6, -4, frac(-3, 2), true}, {-6, -4, frac(3, 2), true}, {-6, 4, frac(-3, 2), true}, {6, 4, frac(3, 2), true},
		{0, 5, frac(0, 1), true}, {0, -5, frac(0, 1), true}, {0, 0, zero, false}, {7, 0, zero, false},
		{maxPart, 1, frac(maxPart, 1), true}, {maxPart + 1, 1, zero, false},
		{maxPart, -1, frac(-maxPart, 1), true}, {maxPart + 1, -1, zero, false},
		{1, maxPart, frac(1, maxPart), true}, {1, maxPart + 1, zero, false},
		{1, -maxPart, frac(-1, maxPart), true}, {1, -maxPart - 1, zero, false},
		{2 * maxPart, 2, frac(maxPart, 1), true}, {2*maxPart + 2, 2, zero, false},
		{0, twoTo62, frac(0, 1), true}, {0, -twoTo62, frac(0, 1), true},
		{0, twoTo62 + 1, zero, false}, {0, -twoTo62 - 1, zero, false},
		{twoTo62, twoTo62, frac(1, 1), true}, {-twoTo62, twoTo62, frac(-1, 1), true},
		{twoTo62, -twoTo62, frac(-1, 1), true}, {-twoTo62, -twoTo62, frac(1, 1), true},
		{twoTo62, 1 << 61, frac(2, 1), true}, {-1 << 61, -twoTo62, frac(1, 2), true},
		{twoTo62 + 1, twoTo62 + 1, zero, false}, {-twoTo62 - 1, -twoTo62 - 1, zero, false},
		{twoTo62 + 2, 1 << 61, zero, false}, {1 << 61, -twoTo62 - 2, zero, false},
		{math.MaxInt64, math.MaxInt64, zero, false}, {math.MinInt64, math.MinInt64, zero, false},
		{math.MinInt64, -1, zero, false}, {-1, math.MinInt64, zero, false}, {math.MinInt64, 0, zero, false},
	} {
		if got, is := impl.Reduced(c.n, c.d); got != c.want || is != c.is {
			t.Errorf("Reduced(%d, %d): %v %v", c.n, c.d, got, is)
		}
	}
}

func TestStepsTell(t *testing.T) {
	h, third, most, least := frac(1, 2), frac(1, 3), frac(maxPart, 1), frac(1, maxPart)
	for _, c := range []struct {
		name string
		by   func(ratio, ratio) (ratio, bool)
		a, b ratio
		want ratio
		is   bool
	}{
		{"Add", impl.Add, h, third, frac(5, 6), true},
		{"Add", impl.Add, h, frac(-1, 2), frac(0, 1), true},
		{"Add", impl.Add, frac(maxPart-1, 1), frac(1, 1), most, true},
		{"Add", impl.Add, most, frac(1, 1), zero, false},
		{"Add", impl.Add, least, frac(1, maxPart-1), zero, false},
		{"Sub", impl.Sub, h, third, frac(1, 6), true},
		{"Sub", impl.Sub, third, h, frac(-1, 6), true},
		{"Sub", impl.Sub, frac(-maxPart+1, 1), frac(1, 1), frac(-maxPart, 1), true},
		{"Sub", impl.Sub, frac(-maxPart, 1), frac(1, 1), zero, false},
		{"Mul", impl.Mul, frac(2, 3), frac(-3, 4), frac(-1, 2), true},
		{"Mul", impl.Mul, frac(maxPart/2, 1), frac(2, 1), most, true},
		{"Mul", impl.Mul, most, frac(2, 1), zero, false},
		{"Mul", impl.Mul, most, least, frac(1, 1), true},
		{"Mul", impl.Mul, least, h, zero, false},
		{"Div", impl.Div, h, third, frac(3, 2), true},
		{"Div", impl.Div, h, frac(-1, 3), frac(-3, 2), true},
		{"Div", impl.Div, frac(1, 1), most, least, true},
		{"Div", impl.Div, frac(1, 1), frac(-maxPart, 1), frac(-1, maxPart), true},
		{"Div", impl.Div, h, most, zero, false},
		{"Div", impl.Div, h, frac(0, 1), zero, false},
		{"Div", impl.Div, frac(0, 1), frac(0, 1), zero, false},
	} {
		if got, is := c.by(c.a, c.b); got != c.want || is != c.is {
			t.Errorf("%s(%v, %v): %v %v", c.name, c.a, c.b, got, is)
		}
	}
}

func TestStepsRefuseWhatIsNotRight(t *testing.T) {
	right := []ratio{frac(0, 1), frac(1, 1), frac(-1, 2), frac(maxPart, 1), frac(1, maxPart)}
	for _, wrong := range wrongRatios() {
		for _, r := range append(right, wrong) {
			for _, s := range steps() {
				if got, is := s.by(wrong, r); is || got != zero {
					t.Errorf("%s(%v, %v): %v %v", s.name, wrong, r, got, is)
				}
				if got, is := s.by(r, wrong); is || got != zero {
					t.Errorf("%s(%v, %v): %v %v", s.name, r, wrong, got, is)
				}
			}
			if impl.Less(wrong, r) || impl.Less(r, wrong) {
				t.Errorf("Less of %v and %v", wrong, r)
			}
		}
		if f := impl.Floor(wrong); f != 0 {
			t.Errorf("Floor(%v): %d", wrong, f)
		}
		if s := impl.ShowRatio(wrong); s != "" {
			t.Errorf("ShowRatio(%v): %q", wrong, s)
		}
	}
}

// someRatios are rightRatios, and as many more by chance (of a fixed seed), with parts of each length, as make 300.
func someRatios() []ratio {
	list := rightRatios()
	chance := rand.New(rand.NewSource(1))
	for len(list) < 300 {
		n := chance.Int63n(maxPart+1) >> chance.Intn(30)
		d := chance.Int63n(maxPart)>>chance.Intn(30) + 1
		if r := frac(n*(1-2*chance.Int63n(2)), d); isExact(r) {
			list = append(list, r)
		}
	}
	return list
}

func TestStepsAreExact(t *testing.T) {
	list := someRatios()
	for _, a := range list {
		for _, b := range list {
			x, _ := exact(a)
			y, _ := exact(b)
			for _, s := range steps() {
				want, wantIs := fitted(s.exact(x, y))
				if got, is := s.by(a, b); got != want || is != wantIs {
					t.Fatalf("%s(%v, %v): %v %v, not %v %v", s.name, a, b, got, is, want, wantIs)
				}
			}
			if got := impl.Less(a, b); got != (x.Cmp(y) < 0) {
				t.Fatalf("Less(%v, %v): %v", a, b, got)
			}
		}
	}
}

// all3 hands on every three of the small fractions: no sum or product of three of them is too great.
func all3(tell func(a, b, c ratio)) {
	var list []ratio
	for _, r := range rightRatios() {
		if r.N >= -6 && r.N <= 6 && r.D <= 6 {
			list = append(list, r)
		}
	}
	for _, a := range list {
		for _, b := range list {
			for _, c := range list {
				tell(a, b, c)
			}
		}
	}
}

func TestFractionsAreAField(t *testing.T) {
	by := func(f func(ratio, ratio) (ratio, bool), a, b ratio) ratio {
		r, is := f(a, b)
		if !is {
			t.Fatalf("%v and %v: refused", a, b)
		}
		return r
	}
	add := func(a, b ratio) ratio { return by(impl.Add, a, b) }
	mul := func(a, b ratio) ratio { return by(impl.Mul, a, b) }
	all3(func(a, b, c ratio) {
		if add(a, b) != add(b, a) || mul(a, b) != mul(b, a) {
			t.Fatal("the order tells", a, b)
		}
		if add(add(a, b), c) != add(a, add(b, c)) || mul(mul(a, b), c) != mul(a, mul(b, c)) {
			t.Fatal("the brackets tell", a, b, c)
		}
		if mul(a, add(b, c)) != add(mul(a, b), mul(a, c)) {
			t.Fatal("products do not go with sums", a, b, c)
		}
		if add(by(impl.Sub, a, b), b) != a || b.N != 0 && mul(by(impl.Div, a, b), b) != a {
			t.Fatal("no way back", a, b)
		}
	})
	for _, a := range rightRatios() {
		if add(a, frac(0, 1)) != a || mul(a, frac(1, 1)) != a || by(impl.Sub, a, a) != frac(0, 1) {
			t.Fatal("nought or one", a)
		}
		if a.N != 0 && by(impl.Div, a, a) != frac(1, 1) {
			t.Fatal("by itself", a)
		}
	}
}

func TestFloorAndLessFit(t *testing.T) {
	for _, c := range []struct {
		a    ratio
		want int64
	}{
		{frac(3, 2), 1}, {frac(-3, 2), -2}, {frac(1, 2), 0}, {frac(-1, 2), -1}, {frac(0, 1), 0}, {frac(5, 1), 5},
		{frac(-5, 1), -5}, {frac(-1, maxPart), -1}, {frac(maxPart-1, maxPart), 0}, {frac(maxPart, 1), maxPart},
		{frac(-maxPart, 1), -maxPart}, {frac(-maxPart, maxPart-1), -2}, {frac(maxPart, maxPart-1), 1},
		{frac(-maxPart, 3), -333333334}, {frac(maxPart, 3), 333333333},
	} {
		if got := impl.Floor(c.a); got != c.want {
			t.Errorf("Floor(%v): %d", c.a, got)
		}
	}
	for _, a := range someRatios() {
		f := impl.Floor(a)
		if impl.Less(a, frac(f, 1)) || f < maxPart && !impl.Less(a, frac(f+1, 1)) {
			t.Errorf("Floor(%v): %d", a, f)
		}
	}
}

func TestLessAtTheEdges(t *testing.T) {
	rising := []ratio{frac(-maxPart, 1), frac(-maxPart+1, 1), frac(-2, 1), frac(-maxPart, maxPart-1), frac(-1, 1),
		frac(-maxPart+1, maxPart), frac(-1, 2), frac(-1, maxPart-1), frac(-1, maxPart), frac(0, 1), frac(1, maxPart),
		frac(1, maxPart-1), frac(1, 2), frac(maxPart-2, maxPart-1), frac(maxPart-1, maxPart), frac(1, 1),
		frac(maxPart, maxPart-1), frac(maxPart-1, 1), frac(maxPart, 1)}
	for i, a := range rising {
		for k, b := range rising {
			if impl.Less(a, b) != (i < k) {
				t.Errorf("Less(%v, %v)", a, b)
			}
		}
	}
}

func TestShowRatioTells(t *testing.T) {
	for _, c := range []struct {
		a    ratio
		want string
	}{
		{frac(0, 1), "0"}, {frac(1, 1), "1"}, {frac(-7, 1), "-7"}, {frac(-3, 2), "-3/2"}, {frac(1, 10), "1/10"},
		{frac(maxPart, 1), "1000000000"}, {frac(-maxPart, 1), "-1000000000"}, {frac(1, maxPart), "1/1000000000"},
		{frac(-maxPart, maxPart-1), "-1000000000/999999999"},
	} {
		if got := impl.ShowRatio(c.a); got != c.want {
			t.Errorf("ShowRatio(%v): %q", c.a, got)
		}
		if got, is := impl.ReadRatio(c.want); !is || got != c.a {
			t.Errorf("ReadRatio(%q): %v %v", c.want, got, is)
		}
	}
}

func TestReadRatioOfShowRatio(t *testing.T) {
	for _, a := range someRatios() {
		if got, is := impl.ReadRatio(impl.ShowRatio(a)); !is || got != a {
			t.Fatalf("%v: %q: %v %v", a, impl.ShowRatio(a), got, is)
		}
	}
}

func wrongTexts() []string {
	return []string{"", " ", "-", "+", "/", "//", "-/", "/2", "1/", "-1/", "-/2", "1//2", "1/2/", "/1/2", "1/2/3",
		"01", "00", "-01", "01/2", "1/02", "-0", "-0/2", "0/1", "0/2", "0/0", "1/0", "+1", "+1/2", "1/+2", "1/-2",
		"-1/-2", "--1", "1-", " 1", "1 ", "1 /2", "1/ 2", " 1/2", "1/2 ", "- 1", "1\n", "\t1", "1/2\n", "1\x00", "\x001",
		"1/1", "-1/1", "5/1", "1000000000/1", "2/4", "-2/4", "6/3", "2/2", "1000000000/1000000000", "1000000000/2",
		"1000000001", "-1000000001", "1/1000000001", "1/10000000000", "10000000000", "-10000000000/3", "2000000000/2",
		"9999999999", "4611686018427387904", "9223372036854775807", "-9223372036854775808", "9223372036854775808",
		"18446744073709551616", "18446744073709551617", "1/18446744073709551617", "99999999999999999999999999999999",
		"0x1", "0b1", "0o7", "1_0", "1_000", "1e3", "1.0", "1.5", "0.5", "a", "1a", "a1", "1/a", "a/2", "1\\2", "1:2", "1,2",
		"\xff", "1\xff", "\u0661", "\uff11", "\u22121", "1\u20442", "\u00bd", "Inf", "NaN", "1/2i"}
}

func TestReadRatioRefuses(t *testing.T) {
	for _, s := range wrongTexts() {
		if got, is := impl.ReadRatio(s); is || got != zero {
			t.Errorf("ReadRatio(%q): %v %v", s, got, is)
		}
	}
}

// Whatever ReadRatio takes comes back as the same text: tried on all short texts of some bytes, and on each byte alone.
func TestReadRatioTakesNoOtherText(t *testing.T) {
	const bytes = "-/0129+ "
	list := []string{""}
	for from := 0; from < len(list); from++ {
		s := list[from]
		got, is := impl.ReadRatio(s)
		if is && impl.ShowRatio(got) != s || !is && got != zero || is && !impl.RatioOk(got) {
			t.Fatalf("ReadRatio(%q): %v %v", s, got, is)
		}
		for i := 0; len(s) < 5 && i < len(bytes); i++ {
			list = append(list, s+bytes[i:i+1])
		}
	}
	for b := 0; b < 256; b++ {
		digit := b >= '0' && b <= '9'
		if got, is := impl.ReadRatio(string([]byte{byte(b)})); is != digit || is && got != frac(int64(b-'0'), 1) {
			t.Errorf("ReadRatio of byte %d: %v %v", b, got, is)
		}
		// Of 6/0 to 6/9 only 6/5 and 6/7 are reduced, with a D that is written out.
		if got, is := impl.ReadRatio(string([]byte{'6', '/', byte(b)})); is != (b == '5' || b == '7') {
			t.Errorf("ReadRatio of 6, / and byte %d: %v %v", b, got, is)
		}
	}
}
