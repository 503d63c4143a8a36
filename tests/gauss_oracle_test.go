package tests

import (
	"math/big"
	"math/rand"
	"strings"
	"testing"

	"loop.example/g00069/impl"
)

type turn = impl.Turn

var noTurn turn

func twoParts(re ratio, im ratio) turn { return turn{Re: re, Im: im} }

// spelt reads a Turn from its parts with a blank between; an empty text stands for the zero Turn.
func spelt(text string) turn {
	if text == "" {
		return noTurn
	}
	re, im, _ := strings.Cut(text, " ")
	return twoParts(speltRatio(re), speltRatio(im))
}

func speltRatio(text string) ratio {
	if text == "" {
		return zero
	}
	q, is := new(big.Rat).SetString(text)
	r, right := fitted(q)
	if !is || !right {
		panic("no fraction: " + text)
	}
	return r
}

// exactTurn are both parts, where the document calls it a Turn, by other means than the program's.
func exactTurn(a turn) (re *big.Rat, im *big.Rat, is bool) {
	re, reIs := exact(a.Re)
	im, imIs := exact(a.Im)
	return re, im, reIs && imIs
}

func isTurn(a turn) bool {
	_, _, is := exactTurn(a)
	return is
}

// fittedTurn is the zero Turn where a part is too great, or something on the way was.
func (k *reckoning) fittedTurn(re *big.Rat, im *big.Rat) (turn, bool) {
	x, y := k.kept(re), k.kept(im)
	if k.tooGreat {
		return noTurn, false
	}
	r, _ := fitted(x)
	i, _ := fitted(y)
	return twoParts(r, i), true
}

// fromBoth is what is reckoned from both parts of both, where they are Turns.
func fromBoth(a turn, b turn, reckon func(k *reckoning, x, y, u, v *big.Rat) (re *big.Rat, im *big.Rat)) (turn, bool) {
	x, y, aIs := exactTurn(a)
	u, v, bIs := exactTurn(b)
	if !aIs || !bIs {
		return noTurn, false
	}
	var k reckoning
	return k.fittedTurn(reckon(&k, x, y, u, v))
}

func exactTurnAdd(a turn, b turn) (turn, bool) {
	return fromBoth(a, b, func(k *reckoning, x, y, u, v *big.Rat) (*big.Rat, *big.Rat) {
		return k.sum(x, u), k.sum(y, v)
	})
}

func exactTurnSub(a turn, b turn) (turn, bool) {
	return fromBoth(a, b, func(k *reckoning, x, y, u, v *big.Rat) (*big.Rat, *big.Rat) {
		return k.difference(x, u), k.difference(y, v)
	})
}

// turnProduct comes by three products in place of four; the steps that the document tells decide only whether a
// fraction on the way is too great.
func (k *reckoning) turnProduct(x, y, u, v *big.Rat) (re *big.Rat, im *big.Rat) {
	k.difference(k.product(x, u), k.product(y, v))
	k.sum(k.product(x, v), k.product(y, u))
	var free reckoning
	one := free.product(u, free.sum(x, y))
	two := free.product(x, free.difference(v, u))
	three := free.product(y, free.sum(u, v))
	return free.difference(one, three), free.sum(one, two)
}

// turnNorm comes by the square of the sum, less both products; the steps likewise.
func (k *reckoning) turnNorm(u, v *big.Rat) *big.Rat {
	k.sum(k.product(u, u), k.product(v, v))
	var free reckoning
	both, product := free.sum(u, v), free.product(u, v)
	return free.difference(free.product(both, both), free.sum(product, product))
}

// turnQuotient comes by the part of u that v is: where v is the greater one, both Turns are turned by a quarter first.
func turnQuotient(x, y, u, v *big.Rat) (re *big.Rat, im *big.Rat) {
	if new(big.Rat).Abs(u).Cmp(new(big.Rat).Abs(v)) < 0 {
		return turnQuotient(y, new(big.Rat).Neg(x), v, new(big.Rat).Neg(u))
	}
	var free reckoning
	part := free.quotient(v, u)
	by := free.sum(u, free.product(v, part))
	re = free.quotient(free.sum(x, free.product(y, part)), by)
	im = free.quotient(free.difference(y, free.product(x, part)), by)
	return re, im
}

func exactTurnMul(a turn, b turn) (turn, bool) { return fromBoth(a, b, (*reckoning).turnProduct) }

func exactTurnDiv(a turn, b turn) (turn, bool) {
	if b == twoParts(frac(0, 1), frac(0, 1)) {
		return noTurn, false
	}
	return fromBoth(a, b, func(k *reckoning, x, y, u, v *big.Rat) (*big.Rat, *big.Rat) {
		k.turnProduct(x, y, u, new(big.Rat).Neg(v))
		k.turnNorm(u, v)
		return turnQuotient(x, y, u, v)
	})
}

func exactMirror(a turn) turn {
	re, im, is := exactTurn(a)
	if !is {
		return noTurn
	}
	var k reckoning
	b, _ := k.fittedTurn(re, new(big.Rat).Neg(im))
	return b
}

func exactNorm(a turn) (ratio, bool) {
	u, v, is := exactTurn(a)
	if !is {
		return zero, false
	}
	var k reckoning
	norm, _ := fitted(k.turnNorm(u, v))
	if k.tooGreat {
		return zero, false
	}
	return norm, true
}

func turnings() []pairing[turn] {
	return []pairing[turn]{
		{"TurnAdd", impl.TurnAdd, exactTurnAdd},
		{"TurnSub", impl.TurnSub, exactTurnSub},
		{"TurnMul", impl.TurnMul, exactTurnMul},
		{"TurnDiv", impl.TurnDiv, exactTurnDiv},
	}
}

func checkTurns(t *testing.T, a turn, b turn) {
	t.Helper()
	for _, p := range turnings() {
		p.checkBothWays(t, a, b)
	}
}

// checkTurn holds what is told of one Turn, and says whether its Norm is told.
func checkTurn(t *testing.T, a turn) bool {
	t.Helper()
	if got := impl.TurnOk(a); got != isTurn(a) {
		t.Fatalf("TurnOk(%v): %v", a, got)
	}
	if got := impl.Mirror(a); got != exactMirror(a) {
		t.Fatalf("Mirror(%v): %v, not %v", a, got, exactMirror(a))
	}
	want, wantIs := exactNorm(a)
	if got, is := impl.Norm(a); is != wantIs || got != want {
		t.Fatalf("Norm(%v): %v %v, not %v %v", a, got, is, want, wantIs)
	}
	return wantIs
}

// turnsOf have all pairs of these as their parts.
func turnsOf(parts []ratio) []turn {
	var list []turn
	for _, re := range parts {
		for _, im := range parts {
			list = append(list, twoParts(re, im))
		}
	}
	return list
}

// smallTurns have parts below 0, above 0 and 0, whole ones and others: no three of them make anything too great.
func smallTurns() []turn {
	return turnsOf([]ratio{frac(-2, 1), frac(-1, 1), frac(-1, 3), frac(0, 1), frac(1, 2), frac(1, 1), frac(3, 2)})
}

// edgeTurns have parts of which sums, products, Norms and quotients are just fractions or too great.
func edgeTurns() []turn {
	return turnsOf([]ratio{frac(-maxPart, 1), frac(-maxPart/2, 1), frac(-1, 31623), frac(0, 1), frac(1, maxPart), frac(1, 31622), frac(1, 1),
		frac(maxPart, maxPart-1), frac(31622, 1), frac(maxPart-1, 1), frac(maxPart, 1)})
}

// wrongTurns have each reason there is for a Turn to be none, in either part, beside some others, and in both.
func wrongTurns() []turn {
	list := []turn{noTurn}
	for _, wrong := range wrongRatios() {
		list = append(list, twoParts(wrong, wrong), twoParts(wrong, zero), twoParts(zero, wrong))
		for _, r := range []ratio{frac(0, 1), frac(1, 1), frac(-1, 2), frac(maxPart, 1)} {
			list = append(list, twoParts(wrong, r), twoParts(r, wrong))
		}
	}
	return list
}

// chanceTurns are by chance (of a fixed seed): three Turns of one kind, with 0 as a part of some, others with alike parts.
func chanceTurns(seed int64, times int, tell func(a, b, c turn)) {
	chance := rand.New(rand.NewSource(seed))
	for range times {
		kind := chance.Intn(6)
		tell(chanceTurn(chance, kind), chanceTurn(chance, kind), chanceTurn(chance, kind))
	}
}

func chanceTurn(chance *rand.Rand, kind int) turn {
	a := twoParts(chanceEnd(chance, kind), chanceEnd(chance, kind))
	switch chance.Intn(8) {
	case 0:
		a.Re = frac(0, 1)
	case 1:
		a.Im = frac(0, 1)
	case 2:
		a.Im = a.Re
	}
	return a
}
