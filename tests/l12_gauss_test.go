package tests

import (
	"math"
	"testing"

	"loop.example/g00069/impl"
)

func TestTurnOkTells(t *testing.T) {
	for _, text := range []string{"0 0", "1 0", "0 1", "-1 0", "0 -1", "3 4", "1/2 -1/3", "1000000000 -1000000000", "-1000000000 1000000000", "1/1000000000 -1/1000000000", "-1000000000/999999999 1000000000/999999999"} {
		if a := spelt(text); !impl.TurnOk(a) {
			t.Errorf("%v is refused", a)
		}
		checkTurn(t, spelt(text))
	}
	for _, a := range append(wrongTurns(),
		twoParts(frac(1, 2), zero), twoParts(zero, frac(1, 2)), twoParts(frac(0, 2), frac(1, 1)), twoParts(frac(1, 1), frac(0, 2)), twoParts(frac(2, 4), frac(1, 2)), twoParts(frac(1, 2), frac(2, 4)),
		twoParts(frac(1, -1), frac(1, 1)), twoParts(frac(1, 1), frac(1, -1)), twoParts(frac(maxPart+1, 1), frac(0, 1)), twoParts(frac(0, 1), frac(maxPart+1, 1)), twoParts(frac(0, 1), frac(-maxPart-1, 1)), twoParts(frac(1, maxPart+1), frac(0, 1)), twoParts(frac(0, 1), frac(1, maxPart+1)),
		twoParts(frac(math.MinInt64, 1), frac(math.MaxInt64, 1)), twoParts(frac(0, 1), frac(math.MinInt64, math.MinInt64))) {
		if impl.TurnOk(a) {
			t.Errorf("%v is taken", a)
		}
		checkTurn(t, a)
	}
}

// A turnCase is what is made of a and b; where that is refused, want is empty.
type turnCase struct{ a, b, want string }

func (c turnCase) turns(t *testing.T) [3]turn {
	t.Helper()
	a, b := spelt(c.a), spelt(c.b)
	checkTurn(t, a)
	checkTurn(t, b)
	checkTurns(t, a, b)
	return [3]turn{a, b, spelt(c.want)}
}

func TestTurnAddTells(t *testing.T) {
	for _, c := range []turnCase{
		{"1 2", "3 -1", "4 1"}, {"1/2 1/3", "1/6 -1/3", "2/3 0"}, {"1 1", "2 3", "3 4"}, {"-3/2 4", "1/2 -1/4", "-1 15/4"}, {"5 0", "0 -7", "5 -7"}, {"0 2", "0 3", "0 5"}, {"2 0", "3 0", "5 0"},
		{"0 0", "0 0", "0 0"}, {"0 0", "-3/2 4", "-3/2 4"}, {"1 -2", "-1 2", "0 0"}, {"1 -2", "-1 -2", "0 -4"}, {"1 -2", "1 2", "2 0"},
		// Just fractions, in the one part and in the other.
		{"999999999 0", "1 0", "1000000000 0"}, {"0 -999999999", "0 -1", "0 -1000000000"}, {"999999999 -999999999", "1 -1", "1000000000 -1000000000"}, {"1000000000 1000000000", "-1000000000 -1000000000", "0 0"}, {"1000000000 1/1000000000", "0 0", "1000000000 1/1000000000"},
		{"1/31622 0", "1/31621 0", "63243/999919262 0"}, {"2 1/31622", "1 1/31621", "3 63243/999919262"}, {"499999999/1000000000 1/999999999", "1/2 1/999999999", "999999999/1000000000 2/999999999"},
		// Re alone is too great, Im alone, both.
		{"1000000000 0", "1 0", ""}, {"0 1000000000", "0 1", ""}, {"-1000000000 5", "-1 -5", ""}, {"5 -1000000000", "-5 -1", ""}, {"1000000000 1000000000", "1 1", ""}, {"1000000000 -1000000000", "1000000000 -1000000000", ""}, {"500000000 500000000", "500000001 500000000", ""}, {"500000000 500000000", "500000000 500000001", ""},
		{"1/31623 0", "1/31624 0", ""}, {"0 1/31623", "0 1/31624", ""}, {"1/1000000000 1", "1/3 1", ""}, {"1 1/1000000000", "1 1/3", ""}, {"1/31623 1/31623", "1/31624 1/31624", ""},
	} {
		turnings()[0].tellsBothWays(t, c.turns(t))
	}
}

func TestTurnSubTells(t *testing.T) {
	for _, c := range []turnCase{
		{"1 1", "2 3", "-1 -2"}, {"2 3", "1 1", "1 2"}, {"1/2 1/3", "1/6 -1/3", "1/3 2/3"}, {"-3/2 4", "1/2 -1/4", "-2 17/4"}, {"5 0", "0 -7", "5 7"}, {"0 -7", "5 0", "-5 -7"}, {"0 2", "0 3", "0 -1"}, {"2 0", "3 0", "-1 0"},
		{"0 0", "0 0", "0 0"}, {"0 0", "-3/2 4", "3/2 -4"}, {"-3/2 4", "0 0", "-3/2 4"}, {"1 -2", "1 -2", "0 0"}, {"1 -2", "1 2", "0 -4"}, {"1 -2", "-1 -2", "2 0"}, {"1000000000 -1/1000000000", "1000000000 -1/1000000000", "0 0"},
		// Just fractions, in the one part and in the other.
		{"-999999999 0", "1 0", "-1000000000 0"}, {"0 999999999", "0 -1", "0 1000000000"}, {"0 0", "1000000000 -1000000000", "-1000000000 1000000000"}, {"1/31621 5", "1/31622 0", "1/999919262 5"}, {"5 1/31621", "0 1/31622", "5 1/999919262"},
		// Re alone is too great, Im alone, both.
		{"-1000000000 0", "1 0", ""}, {"0 -1000000000", "0 1", ""}, {"1000000000 5", "-1 5", ""}, {"5 1000000000", "5 -1", ""}, {"1000000000 -1000000000", "-1 1", ""}, {"1000000000 0", "-1000000000 0", ""}, {"0 1000000000", "0 -1000000000", ""},
		{"1/31623 0", "1/31624 0", ""}, {"0 1/31623", "0 1/31624", ""}, {"1/1000000000 1", "1/999999999 1", ""}, {"1 1/1000000000", "1 1/999999999", ""},
	} {
		turnings()[1].tells(t, c.turns(t))
	}
}

func TestTurnMulTells(t *testing.T) {
	for _, c := range []turnCase{
		{"1 2", "3 -1", "5 5"}, {"2 3", "2 3", "-5 12"}, {"1 1", "1 1", "0 2"}, {"1 1", "1 -1", "2 0"}, {"1/2 1/3", "1/2 -1/3", "13/36 0"}, {"1/2 -3/4", "4/5 8", "32/5 17/5"}, {"-2 -5", "3 -7", "-41 -1"},
		// The root of -1 times itself, and where Re or Im alone is 0.
		{"0 1", "0 1", "-1 0"}, {"0 -1", "0 -1", "-1 0"}, {"0 1", "0 -1", "1 0"}, {"0 1", "3 4", "-4 3"}, {"0 -1", "3 4", "4 -3"}, {"-1 0", "3 4", "-3 -4"}, {"3 0", "5 0", "15 0"}, {"0 3", "0 5", "-15 0"}, {"0 3", "5 0", "0 15"}, {"3 0", "0 -5", "0 -15"}, {"3 0", "1 2", "3 6"}, {"0 3", "1 2", "-6 3"},
		{"0 0", "0 0", "0 0"}, {"0 0", "7 -9", "0 0"}, {"0 0", "1000000000 -1/1000000000", "0 0"}, {"1 0", "7 -9", "7 -9"}, {"1 0", "1000000000 -1/1000000000", "1000000000 -1/1000000000"},
		// Just fractions: each product by itself, the difference, the sum.
		{"500000000 0", "2 0", "1000000000 0"}, {"0 500000000", "0 2", "-1000000000 0"}, {"500000000 0", "0 2", "0 1000000000"}, {"0 1000000000", "0 1", "-1000000000 0"}, {"0 1", "1000000000 -1000000000", "1000000000 1000000000"}, {"1/31622 0", "1/31622 0", "1/999950884 0"}, {"0 1/31622", "0 1/31622", "-1/999950884 0"}, {"0 1/31622", "1/31622 0", "0 1/999950884"},
		{"30000 20000", "20000 -20000", "1000000000 -200000000"}, {"30000 20000", "20000 20000", "200000000 1000000000"}, {"1/1000000000 0", "1000000000 1", "1 1/1000000000"}, {"100000 0", "10000 10000", "1000000000 1000000000"},
		// Re alone is too great, Im alone, both: of the products, and of the difference or the sum alone.
		{"40000 0", "40000 0", ""}, {"0 40000", "0 40000", ""}, {"40000 0", "0 40000", ""}, {"1000000000 0", "0 2", ""}, {"0 1000000000", "0 2", ""}, {"30000 20000", "20000 -30000", ""}, {"30000 20000", "30000 20000", ""}, {"30000 20000", "20000 20001", ""}, {"30001 20000", "20000 -20000", ""}, {"100000 0", "10001 10001", ""},
		{"1/31623 0", "1/31623 0", ""}, {"0 1/31623", "0 1/31623", ""}, {"1/31623 0", "0 1/31623", ""}, {"1000000000 1000000000", "1000000000 1000000000", ""}, {"1000000000 -1000000000", "1000000000 1000000000", ""}, {"1/1000000000 1000000000", "1/1000000000 1000000000", ""},
	} {
		turnings()[2].tellsBothWays(t, c.turns(t))
	}
}

// In each case one step alone is too great: every other one, and what would come in the end, is a fraction.
func TestTurnMulIsTooGreatInOneStep(t *testing.T) {
	for _, c := range []turnCase{
		// Re times Re, Im times Im, Re times Im, Im times Re.
		{"62500 5265", "16200 3750", ""}, {"-39/8 236925", "4 5625/2", ""}, {"105300 -32955", "936 9600", ""}, {"3 1690/3", "845000 4/9", ""},
		// The difference, the sum.
		{"1/40 6591", "3 6318", ""}, {"6 96", "5408 1/4225", ""},
	} {
		turnings()[2].tellsBothWays(t, c.turns(t))
	}
}

func TestTurnDivTells(t *testing.T) {
	for _, c := range []turnCase{
		{"5 5", "3 -1", "1 2"}, {"5 5", "1 2", "3 -1"}, {"1 0", "1 1", "1/2 -1/2"}, {"1/2 1/3", "1/6 0", "3 2"}, {"32/5 17/5", "1/2 -3/4", "4/5 8"}, {"-41 -1", "3 -7", "-2 -5"}, {"1 2", "3 4", "11/25 2/25"},
		// Where Re or Im alone is 0.
		{"6 0", "3 0", "2 0"}, {"0 6", "0 3", "2 0"}, {"6 0", "0 3", "0 -2"}, {"0 6", "3 0", "0 2"}, {"1 0", "0 1", "0 -1"}, {"-1 0", "0 1", "0 1"}, {"3 4", "0 1", "4 -3"}, {"3 4", "0 -2", "-2 3/2"}, {"3 4", "-1 0", "-3 -4"}, {"3 4", "1 0", "3 4"},
		// By itself, and by its Mirror.
		{"0 1", "0 1", "1 0"}, {"1 2", "1 2", "1 0"}, {"-3/2 1/3", "-3/2 1/3", "1 0"}, {"10000 30000", "10000 30000", "1 0"}, {"0 1", "0 -1", "-1 0"}, {"5 0", "5 0", "1 0"}, {"1 2", "1 -2", "-3/5 4/5"}, {"3 4", "3 -4", "-7/25 24/25"}, {"1/2 -1", "1/2 1", "-3/5 -4/5"},
		// By 0 nothing is divided; 0 is by anything else.
		{"1 0", "0 0", ""}, {"0 1", "0 0", ""}, {"0 0", "0 0", ""}, {"1000000000 -1000000000", "0 0", ""}, {"0 0", "3 4", "0 0"}, {"0 0", "0 1/31622", "0 0"}, {"0 0", "-1/31622 0", "0 0"}, {"0 0", "10000 30000", "0 0"},
		// Just fractions.
		{"1/10000 0", "10000 30000", "1/1000000000 -3/1000000000"}, {"1 0", "10000 30000", "1/100000 -3/100000"}, {"1000000 0", "1/1000 0", "1000000000 0"}, {"0 -1000000", "1/1000 0", "0 -1000000000"}, {"31622 0", "1/31622 0", "999950884 0"}, {"1000000000 -1000000000", "1 0", "1000000000 -1000000000"}, {"500000000 0", "1 1", "250000000 -250000000"},
		// Re of the quotient alone is too great, Im alone, both.
		{"1000001 0", "1/1000 0", ""}, {"0 1000001", "1/1000 0", ""}, {"1000001 1000001", "1/1000 0", ""}, {"0 1000001", "0 1/1000", ""}, {"1000001 0", "0 1/1000", ""}, {"1/20000 0", "10000 30000", ""}, {"1/1000 1", "1000000 0", ""},
		// On the way: the product, the Norm, where the quotient would be right.
		{"1000000000 0", "2 0", ""}, {"0 1000000000", "2 0", ""}, {"1000000000 0", "0 2", ""}, {"0 1000000000", "0 2", ""}, {"500000001 500000001", "1 1", ""}, {"1/31623 0", "1/31623 0", ""}, {"40000 0", "40000 0", ""}, {"0 0", "40000 0", ""}, {"0 0", "0 40000", ""}, {"0 0", "1/31623 0", ""}, {"0 0", "0 1/31623", ""}, {"10000 30001", "10000 30001", ""}, {"1000000000 1000000000", "1000000000 1000000000", ""},
	} {
		turnings()[3].tells(t, c.turns(t))
	}
}

// In each case one step alone is too great: every other one, and what would come in the end, is a fraction.
func TestTurnDivIsTooGreatInOneStep(t *testing.T) {
	for _, c := range []turnCase{
		// TurnMul of a and b's Mirror: Re times Re, Im times Im, Re times Im, Im times Re, the difference, the sum.
		{"130000 8/7", "11520/7 6", ""}, {"7020 131625", "3750 -7776", ""}, {"54675 4992", "1664 18432", ""}, {"59904 80000", "12636 195", ""}, {"1/40 6591", "3 6318", ""}, {"-5/27 8000", "9477 1", ""},
		// b's Norm: the square of Re, of Im, their sum.
		{"0 0", "9377/39366 1/162", ""}, {"0 0", "1/78 2/47385", ""}, {"0 0", "7776 4/9", ""},
		// Re of the quotient, Im of it.
		{"0 5/2187", "780 1", ""}, {"8/13 0", "8788 3", ""},
	} {
		turnings()[3].tells(t, c.turns(t))
	}
}

func TestMirrorTells(t *testing.T) {
	for _, c := range [][2]string{
		{"1 2", "1 -2"}, {"1 -2", "1 2"}, {"-3/2 1/3", "-3/2 -1/3"}, {"0 0", "0 0"}, {"5 0", "5 0"}, {"-5 0", "-5 0"}, {"0 1", "0 -1"}, {"0 -7/3", "0 7/3"}, {"1000000000 1000000000", "1000000000 -1000000000"}, {"-1000000000 -1000000000", "-1000000000 1000000000"}, {"1/1000000000 -1/1000000000", "1/1000000000 1/1000000000"},
	} {
		if got := impl.Mirror(spelt(c[0])); got != spelt(c[1]) {
			t.Errorf("Mirror(%s): %v", c[0], got)
		}
		checkTurn(t, spelt(c[0]))
	}
}

func TestNormTells(t *testing.T) {
	for _, c := range [][2]string{
		{"3 4", "25"}, {"3 -4", "25"}, {"-4 3", "25"}, {"1 1", "2"}, {"1/2 -1/3", "13/36"}, {"3/5 4/5", "1"}, {"0 0", "0"}, {"5 0", "25"}, {"-5 0", "25"}, {"0 5", "25"}, {"0 -5", "25"}, {"0 1", "1"}, {"1/7 0", "1/49"},
		// Just fractions.
		{"10000 30000", "1000000000"}, {"-30000 10000", "1000000000"}, {"31622 221", "999999725"}, {"31622 0", "999950884"}, {"0 31622", "999950884"}, {"1/31622 0", "1/999950884"}, {"0 -1/31622", "1/999950884"}, {"1/31622 1/31622", "1/499975442"}, {"1/178 1/177", "63013/992628036"},
		// The square of Re alone is too great, that of Im alone, their sum alone, both squares.
		{"31623 0", ""}, {"0 31623", ""}, {"-40000 1", ""}, {"1 -40000", ""}, {"1/31623 0", ""}, {"0 1/31623", ""}, {"10000 30001", ""}, {"30001 10000", ""}, {"31622 222", ""}, {"31622 31622", ""}, {"1/31622 1/3", ""}, {"1/178 1/179", ""}, {"1000000000 1000000000", ""}, {"1/1000000000 1000000000", ""},
		// On the way alone: the sum would be right.
		{"40625/2 1/2", ""}, {"1/2 40625/2", ""}, {"4/5 1/56160", ""}, {"1/56160 4/5", ""}, {"1/100000 3/100000", ""},
	} {
		got, is := impl.Norm(spelt(c[0]))
		if got != speltRatio(c[1]) || is != (c[1] != "") {
			t.Errorf("Norm(%s): %v %v, not %s", c[0], got, is, c[1])
		}
		checkTurn(t, spelt(c[0]))
	}
}

// toldBy tells what is made of two Turns of which it is not to be refused.
func toldBy(t *testing.T, p pairing[turn]) func(turn, turn) turn {
	return func(a turn, b turn) turn {
		c, is := p.by(a, b)
		if !is || !impl.TurnOk(c) {
			t.Fatalf("%s(%v, %v): %v %v", p.name, a, b, c, is)
		}
		return c
	}
}

// Promise 12, first half: Turns are a field. All small ones, three at a time.
func TestTurnsAreAField(t *testing.T) {
	p := turnings()
	add, sub, mul, div := toldBy(t, p[0]), toldBy(t, p[1]), toldBy(t, p[2]), toldBy(t, p[3])
	nought, one := spelt("0 0"), spelt("1 0")
	list := smallTurns()
	for _, a := range list {
		if add(a, nought) != a || sub(a, nought) != a || mul(a, one) != a || div(a, one) != a || sub(a, a) != nought || add(a, sub(nought, a)) != nought || mul(a, nought) != nought {
			t.Fatal("nought or one", a)
		}
		if a != nought && (div(a, a) != one || mul(a, div(one, a)) != one || div(nought, a) != nought) {
			t.Fatal("by itself", a)
		}
		for _, b := range list {
			if add(a, b) != add(b, a) || mul(a, b) != mul(b, a) || sub(a, b) != sub(nought, sub(b, a)) {
				t.Fatal("the order tells", a, b)
			}
			if sub(add(a, b), b) != a || add(sub(a, b), b) != a || b != nought && (mul(div(a, b), b) != a || div(mul(a, b), b) != a) {
				t.Fatal("no way back", a, b)
			}
			if mul(a, b) == nought && a != nought && b != nought {
				t.Fatal("a product is nought", a, b)
			}
			for _, c := range list {
				if add(add(a, b), c) != add(a, add(b, c)) || mul(mul(a, b), c) != mul(a, mul(b, c)) {
					t.Fatal("the brackets tell", a, b, c)
				}
				if mul(a, add(b, c)) != add(mul(a, b), mul(a, c)) {
					t.Fatal("products do not go with sums", a, b, c)
				}
			}
		}
	}
}

// A way is steps one behind the other, of which each may be refused; so is what comes then.
type way struct {
	at turn
	is bool
}

func (w way) by(step func(turn, turn) (turn, bool), b way) way {
	if !w.is || !b.is {
		return way{}
	}
	at, is := step(w.at, b.at)
	return way{at, is}
}

// Promise 12, as far as they go: of Turns by chance, wherever both ways are told.
func TestTurnsByChanceAreAField(t *testing.T) {
	held := map[string]int{}
	alike := func(law string, one way, other way) {
		t.Helper()
		if one.is && other.is {
			held[law]++
			if one.at != other.at {
				t.Fatal(law, one.at, other.at)
			}
		}
	}
	add, sub, mul, div := impl.TurnAdd, impl.TurnSub, impl.TurnMul, impl.TurnDiv
	chanceTurns(121, 20000, func(x, y, z turn) {
		a, b, c := way{x, true}, way{y, true}, way{z, true}
		alike("order of sums", a.by(add, b), b.by(add, a))
		alike("order of products", a.by(mul, b), b.by(mul, a))
		alike("brackets of sums", a.by(add, b).by(add, c), a.by(add, b.by(add, c)))
		alike("brackets of products", a.by(mul, b).by(mul, c), a.by(mul, b.by(mul, c)))
		alike("products of sums", a.by(mul, b.by(add, c)), a.by(mul, b).by(add, a.by(mul, c)))
		alike("back from a sum", a.by(add, b).by(sub, b), a)
		alike("back from a difference", a.by(sub, b).by(add, b), a)
		alike("back from a product", a.by(mul, b).by(div, b), a)
		alike("back from a quotient", a.by(div, b).by(mul, b), a)
		alike("quotients of sums", a.by(add, b).by(div, c), a.by(div, c).by(add, b.by(div, c)))
		mirrored := way{impl.Mirror(y), true}
		alike("by a Mirror", a.by(div, b).by(div, mirrored), a.by(div, b.by(mul, mirrored)))
	})
	for law, times := range held {
		if times < 3000 {
			t.Error("too few", law, times)
		}
	}
	if len(held) != 11 {
		t.Error(held)
	}
}

// By the root of -1 a Turn turns by a quarter; four of them are a whole turn.
func TestTheRootTurnsByAQuarter(t *testing.T) {
	root := spelt("0 1")
	less := func(r ratio) ratio { return frac(-r.N, r.D) }
	for _, a := range append(smallTurns(), edgeTurns()...) {
		b := a
		for _, want := range []turn{twoParts(less(a.Im), a.Re), twoParts(less(a.Re), less(a.Im)), twoParts(a.Im, less(a.Re)), a} {
			next, is := impl.TurnMul(b, root)
			if !is || next != want {
				t.Fatalf("%v turned: %v %v, not %v", b, next, is, want)
			}
			if back, backIs := impl.TurnDiv(next, root); !backIs || back != b {
				t.Fatalf("%v turned back: %v %v, not %v", next, back, backIs, b)
			}
			b = next
		}
	}
}

// Promise 12, second half: the Norm of a product is the product of the Norms, that of a quotient their quotient.
func TestNormsGoWithProducts(t *testing.T) {
	list := smallTurns()
	for _, a := range list {
		normA, aIs := impl.Norm(a)
		for _, b := range list {
			product, is := impl.TurnMul(a, b)
			norm, normIs := impl.Norm(product)
			normB, bIs := impl.Norm(b)
			want, wantIs := impl.Mul(normA, normB)
			if !aIs || !bIs || !is || !normIs || !wantIs || norm != want {
				t.Fatalf("Norm of %v times %v: %v, not %v", a, b, norm, want)
			}
			if b == spelt("0 0") {
				continue
			}
			quotient, is := impl.TurnDiv(a, b)
			norm, normIs = impl.Norm(quotient)
			want, wantIs = impl.Div(normA, normB)
			if !is || !normIs || !wantIs || norm != want {
				t.Fatalf("Norm of %v by %v: %v, not %v", a, b, norm, want)
			}
		}
	}
}

func TestNormsByChanceGoWithProducts(t *testing.T) {
	products, quotients, mirrors := 0, 0, 0
	chanceTurns(122, 20000, func(a, b, _ turn) {
		normA, aIs := impl.Norm(a)
		normB, bIs := impl.Norm(b)
		product, _ := impl.TurnMul(a, b)
		norm, is := impl.Norm(product)
		if want, wantIs := impl.Mul(normA, normB); aIs && bIs && is && wantIs {
			if products++; norm != want {
				t.Fatalf("Norm of %v times %v: %v, not %v", a, b, norm, want)
			}
		}
		quotient, _ := impl.TurnDiv(a, b)
		norm, is = impl.Norm(quotient)
		if want, wantIs := impl.Div(normA, normB); aIs && bIs && is && wantIs {
			if quotients++; norm != want {
				t.Fatalf("Norm of %v by %v: %v, not %v", a, b, norm, want)
			}
		}
		if whole, wholeIs := impl.TurnMul(a, impl.Mirror(a)); wholeIs && aIs {
			if mirrors++; whole != twoParts(normA, frac(0, 1)) {
				t.Fatalf("%v times its Mirror: %v, not %v", a, whole, normA)
			}
		}
	})
	if products < 5000 || quotients < 3000 || mirrors < 10000 {
		t.Error("too few", products, quotients, mirrors)
	}
}

// A Norm is 0 of 0 alone, else above 0; that of a Mirror is the same, and so is the Mirror of a Mirror.
func TestMirrorsOfMirrors(t *testing.T) {
	tell := func(a turn) {
		norm, is := impl.Norm(a)
		b := impl.Mirror(a)
		if other, otherIs := impl.Norm(b); other != norm || otherIs != is {
			t.Fatalf("Norm of %v and of its Mirror: %v and %v", a, norm, other)
		}
		if impl.Mirror(b) != a || b.Re != a.Re || (b == a) != (a.Im.N == 0) {
			t.Fatalf("Mirror of %v: %v", a, b)
		}
		if is && (norm.N < 0 || (norm.N == 0) != (a == spelt("0 0"))) {
			t.Fatalf("Norm of %v: %v", a, norm)
		}
	}
	for _, a := range append(smallTurns(), edgeTurns()...) {
		tell(a)
	}
	chanceTurns(123, 3000, func(a, b, c turn) {
		tell(a)
		tell(b)
		tell(c)
	})
}

// Mirrors of sums, differences, products and quotients are those of the Mirrors, and one is refused where the other is.
func TestMirrorsGoWithEachStep(t *testing.T) {
	told := 0
	chanceTurns(124, 10000, func(a, b, _ turn) {
		for _, p := range turnings() {
			c, is := p.by(a, b)
			if d, dIs := p.by(impl.Mirror(a), impl.Mirror(b)); dIs != is || d != impl.Mirror(c) {
				t.Fatalf("%s(%v, %v): %v, of the Mirrors %v", p.name, a, b, c, d)
			}
			if is {
				told++
			}
		}
	})
	if told < 15000 {
		t.Error("too few", told)
	}
}
