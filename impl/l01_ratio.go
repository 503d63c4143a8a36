package impl

import (
	"strconv"
	"strings"
)

const MaxPart = 1000000000

// mostReducible leaves room above the parts of any sum, difference, product
// or quotient of two right fractions: none of them is above 2 * MaxPart * MaxPart.
const mostReducible = 1 << 62

type Ratio struct {
	N int64
	D int64
}

func RatioOk(r Ratio) bool { return r.right() }

func Reduced(n int64, d int64) (Ratio, bool) {
	if d == 0 || !reducible(n) || !reducible(d) {
		return Ratio{}, false
	}
	divisor := commonDivisor(n, d)
	if d < 0 {
		divisor = -divisor
	}
	r := Ratio{N: n / divisor, D: d / divisor}
	if !r.bounded() {
		return Ratio{}, false
	}
	return r, true
}

func Add(a Ratio, b Ratio) (Ratio, bool) { return reckoned(a, a.plus, b) }

func Sub(a Ratio, b Ratio) (Ratio, bool) { return reckoned(a, a.minus, b) }

func Mul(a Ratio, b Ratio) (Ratio, bool) { return reckoned(a, a.times, b) }

func Div(a Ratio, b Ratio) (Ratio, bool) { return reckoned(a, a.over, b) }

func Less(a Ratio, b Ratio) bool {
	return a.right() && b.right() && a.N*b.D < b.N*a.D
}

func Floor(a Ratio) int64 {
	if !a.right() {
		return 0
	}
	whole := a.N / a.D
	if a.N%a.D < 0 {
		whole--
	}
	return whole
}

func ShowRatio(a Ratio) string {
	if !a.right() {
		return ""
	}
	n := strconv.FormatInt(a.N, 10)
	if a.D == 1 {
		return n
	}
	return n + "/" + strconv.FormatInt(a.D, 10)
}

func ReadRatio(s string) (Ratio, bool) {
	top, bottom, divided := strings.Cut(s, "/")
	if !divided {
		bottom = "1"
	}
	n, topErr := strconv.ParseInt(top, 10, 64)
	d, bottomErr := strconv.ParseInt(bottom, 10, 64)
	r := Ratio{N: n, D: d}
	// ParseInt takes forms that ShowRatio never writes (a sign +, noughts
	// ahead), so only a text that comes back as it was is taken.
	if topErr != nil || bottomErr != nil || ShowRatio(r) != s {
		return Ratio{}, false
	}
	return r, true
}

// reckoned keeps the steps free of checks: a step is a method value of a, and
// it may rely on both fractions being right.
func reckoned(a Ratio, step func(Ratio) (Ratio, bool), b Ratio) (Ratio, bool) {
	if !a.right() || !b.right() {
		return Ratio{}, false
	}
	return step(b)
}

func (r Ratio) plus(b Ratio) (Ratio, bool) {
	return Reduced(r.N*b.D+b.N*r.D, r.D*b.D)
}

func (r Ratio) minus(b Ratio) (Ratio, bool) {
	return Reduced(r.N*b.D-b.N*r.D, r.D*b.D)
}

func (r Ratio) times(b Ratio) (Ratio, bool) {
	return Reduced(r.N*b.N, r.D*b.D)
}

// over needs no check of its own for a b of 0: Reduced refuses a d of 0.
func (r Ratio) over(b Ratio) (Ratio, bool) {
	return Reduced(r.N*b.D, r.D*b.N)
}

func (r Ratio) right() bool {
	return r.bounded() && commonDivisor(r.N, r.D) == 1
}

func (r Ratio) bounded() bool {
	return r.D >= 1 && r.D <= MaxPart && r.N >= -MaxPart && r.N <= MaxPart
}

func reducible(n int64) bool {
	return n >= -mostReducible && n <= mostReducible
}

// commonDivisor is above 0 unless both are 0.
func commonDivisor(a int64, b int64) int64 {
	for b != 0 {
		a, b = b, a%b
	}
	if a < 0 {
		return -a
	}
	return a
}
