package tests

import (
	"math/big"
	"testing"
	"time"

	"loop.example/g00069/impl"
)

// exactTerms are Floor and what is left, in numbers of any length.
func exactTerms(r ratio) []int64 {
	var list []int64
	q, is := exact(r)
	for is {
		whole := new(big.Int).Div(q.Num(), q.Denom())
		list = append(list, whole.Int64())
		q = new(big.Rat).Sub(q, new(big.Rat).SetInt(whole))
		if is = q.Sign() != 0; is {
			q.Inv(q)
		}
	}
	return list
}

// exactFromTerms goes back from the last term; each fraction on the way is to be a right one.
func exactFromTerms(list []int64) (ratio, bool) {
	if len(list) == 0 || len(list) > 60 {
		return zero, false
	}
	for _, term := range list[1:] {
		if term < 1 {
			return zero, false
		}
	}
	var rest *big.Rat
	for i := len(list) - 1; i >= 0; i-- {
		q := new(big.Rat).SetInt64(list[i])
		if _, is := fitted(q); !is {
			return zero, false
		}
		if rest != nil {
			q.Add(q, new(big.Rat).Inv(rest))
		}
		if _, is := fitted(q); !is {
			return zero, false
		}
		rest = q
	}
	return fitted(rest)
}

// searchNearest looks at every fraction whose D is at most most, from one whole number below a to one above it: by
// rising D, and of one D by rising N, so that the first of several as near is the one to be told. For small parts.
func searchNearest(a ratio, most int64) ratio {
	var best ratio
	far := func(x ratio) int64 { return max(a.N*x.D-x.N*a.D, x.N*a.D-a.N*x.D) }
	from := a.N/a.D - 2
	for d := int64(1); d <= most; d++ {
		for n := from * d; n <= (from+4)*d; n++ {
			x := frac(n, d)
			if best == zero || far(x)*best.D < far(best)*x.D {
				best = x
			}
		}
	}
	return best
}

// searchBetween looks at every fraction, by rising D, then by rising distance of N from 0, those above 0 first. For
// small parts: the sum of both N by the sum of both D lies between, so there is one.
func searchBetween(a ratio, b ratio) ratio {
	for d := int64(1); d <= a.D+b.D; d++ {
		for far := int64(0); ; far++ {
			for _, n := range []int64{far, -far} {
				if a.N*d < n*a.D && n*b.D < b.N*d {
					return frac(n, d)
				}
			}
			if far*a.D > max(a.N, -a.N)*d && far*b.D > max(b.N, -b.N)*d {
				break
			}
		}
	}
	return zero
}

func inverse(n int64, modulus int64) int64 {
	if modulus == 1 {
		return 0
	}
	return new(big.Int).ModInverse(big.NewInt(n), big.NewInt(modulus)).Int64()
}

// neighbour is, of all fractions with a D of at most most, the next one above x (side 1) or below it (side -1): the
// one with p * x.D - x.N * q = side whose q is greatest.
func neighbour(x ratio, side int64, most int64) ratio {
	q := most - ((most+side*inverse(x.N, x.D))%x.D+x.D)%x.D
	return frac((side+x.N*q)/x.D, q)
}

// below is Less for any N and any D above 0.
func below(a ratio, b ratio) bool {
	left := new(big.Int).Mul(big.NewInt(a.N), big.NewInt(b.D))
	return left.Cmp(new(big.Int).Mul(big.NewInt(b.N), big.NewInt(a.D))) < 0
}

func distance(a ratio, x ratio) *big.Rat {
	d := new(big.Rat).Sub(big.NewRat(a.N, a.D), big.NewRat(x.N, x.D))
	return d.Abs(d)
}

// checkNearest holds Nearest against its neighbour on the other side of a: between both there is no fraction with so
// small a D, so that one of them is the nearest.
func checkNearest(t *testing.T, a ratio, most int64) {
	t.Helper()
	x, is := impl.Nearest(a, most)
	if !isExact(a) || most < 1 || most > maxPart {
		if is || x != zero {
			t.Fatalf("Nearest(%v, %d): %v %v", a, most, x, is)
		}
		return
	}
	if !is || !isExact(x) || x.D > most {
		t.Fatalf("Nearest(%v, %d): %v %v", a, most, x, is)
	}
	if a == x {
		return
	}
	side := int64(1)
	if below(a, x) {
		side = -1
	}
	y := neighbour(x, side, most)
	over := below(a, y)
	far := distance(a, x).Cmp(distance(a, y))
	if a == y || over != (side == 1) || far > 0 || far == 0 && (x.D > y.D || x.D == y.D && x.N > y.N) {
		t.Fatalf("Nearest(%v, %d): %v, and on the other side %v", a, most, x, y)
	}
}

// checkBetween holds Between against the two fractions of which it is the sum, part by part: all that lies between
// these two is less simple, so neither may lie between a and b.
func checkBetween(t *testing.T, a ratio, b ratio) {
	t.Helper()
	x, is := impl.Between(a, b)
	if is != isExact(x) || !is && x != zero {
		t.Fatalf("Between(%v, %v): %v %v", a, b, x, is)
	}
	if !isExact(a) || !isExact(b) || !below(a, b) {
		if is {
			t.Fatalf("Between(%v, %v): %v", a, b, x)
		}
		return
	}
	if a.N < 0 && b.N > 0 {
		if x != frac(0, 1) {
			t.Fatalf("Between(%v, %v): %v %v", a, b, x, is)
		}
		return
	}
	low, high, told := a, b, x
	if a.N < 0 {
		low, high, told = frac(-b.N, b.D), frac(-a.N, a.D), frac(-x.N, x.D)
	}
	if is && !simplestBetween(low, high, told) || !is && !nothingRightBetween(low, high) {
		t.Fatalf("Between(%v, %v): %v %v", a, b, x, is)
	}
}

func simplestBetween(low ratio, high ratio, x ratio) bool {
	if !below(low, x) || !below(x, high) {
		return false
	}
	if x.D == 1 {
		return !below(low, frac(x.N-1, 1))
	}
	left := neighbour(x, -1, x.D-1)
	right := frac(x.N-left.N, x.D-left.D)
	return !below(low, left) && !below(right, high)
}

// nothingRightBetween: the least fraction above low whose D is right is not below high, or (of 1 divided by them) the
// greatest one below high whose N is right is not above low.
func nothingRightBetween(low ratio, high ratio) bool {
	if !below(neighbour(low, 1, maxPart), high) {
		return true
	}
	over := neighbour(frac(high.D, high.N), 1, maxPart)
	return low.N > 0 && !below(over, frac(low.D, low.N))
}

// soon fails where f takes long, as a way of a thousand million steps would.
func soon(t *testing.T, name string, f func()) {
	t.Helper()
	done := make(chan bool)
	go func() {
		f()
		close(done)
	}()
	select {
	case <-done:
	case <-time.After(20 * time.Second):
		t.Fatal(name, "takes too long")
	}
}
