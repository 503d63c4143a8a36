package tests

import (
	"math"
	"slices"
	"strconv"
	"strings"
	"testing"

	"loop.example/g00069/impl"
)

func nought() []int64 { return dim(0, 0, 0, 0, 0) }

func TestDimOkTells(t *testing.T) {
	for n := range 12 {
		for _, power := range []int64{0, 1, -9, 9} {
			if got := impl.DimOk(slices.Repeat([]int64{power}, n)); got != (n == 5) {
				t.Errorf("DimOk of %d times %d: %v", n, power, got)
			}
		}
	}
	for place := range 5 {
		for _, power := range append(edgeNumbers(), -12, -11, -10, -9, -8, -5, 5, 8, 9, 10, 11, 12) {
			for _, d := range dims(nought(), dim(9, -9, 9, -9, 9), dim(1, 2, -3, 4, -5)) {
				d[place] = power
				if got := impl.DimOk(d); got != (power >= -9 && power <= 9) {
					t.Errorf("DimOk(%v): %v", d, got)
				}
			}
		}
	}
}

func TestDimTimesTells(t *testing.T) {
	for _, c := range []struct{ a, b, want []int64 }{
		{dim(1, 0, -1, 0, 0), dim(0, 0, 1, 0, 0), dim(1, 0, 0, 0, 0)}, {nought(), nought(), nought()},
		{dim(1, 2, 3, 4, 5), dim(1, -2, 4, -5, 0), dim(2, 0, 7, -1, 5)}, {dim(-1, 1, -2, 0, 9), dim(1, -1, 2, 0, -9), nought()},
		{dim(9, -9, 9, -9, 9), nought(), dim(9, -9, 9, -9, 9)}, {dim(4, -4, 5, -5, 8), dim(5, -5, 4, -4, 1), dim(9, -9, 9, -9, 9)},
		// Just none, in the first place and in the last one.
		{dim(5, 0, 0, 0, 0), dim(5, 0, 0, 0, 0), nil}, {dim(0, 0, 0, 0, -9), dim(0, 0, 0, 0, -1), nil}, {dim(9, 1, 1, 1, 1), dim(9, 1, 1, 1, 1), nil},
		// The sum would be a dimension, but one of both is none.
		{dim(10, 0, 0, 0, 0), dim(-1, 0, 0, 0, 0), nil}, {dim(1, 0, 0, 0, 0), dim(-10, 0, 0, 0, 0), nil}, {dim(1, 2, 3, 4), dim(1, 2, 3, 4), nil},
		{dim(1, 2, 3, 4, 5), dim(1, 2, 3, 4), nil}, {dim(1, 2, 3, 4), dim(1, 2, 3, 4, 5), nil}, {dim(1, 2, 3, 4, 5, 0), dim(1, 2, 3, 4, 4), nil},
		{dim(math.MinInt64, 0, 0, 0, 0), dim(math.MinInt64, 0, 0, 0, 0), nil}, {dim(0, 0, math.MaxInt64, 0, 0), dim(0, 0, -math.MaxInt64, 0, 0), nil},
		{nil, nought(), nil}, {nought(), nil, nil}, {nil, nil, nil}, {dim(), dim(), nil},
	} {
		if got := impl.DimTimes(c.a, c.b); !slices.Equal(got, c.want) {
			t.Errorf("DimTimes(%v, %v): %v, not %v", c.a, c.b, got, c.want)
		}
	}
}

func TestDimTimesIsExact(t *testing.T) {
	told := map[bool]int{}
	for _, a := range everyPower() {
		for _, b := range everyPower() {
			told[checkDimTimes(t, a, b)]++
		}
	}
	if told[true] < 1000 || told[false] < 1000 {
		t.Fatal("too few", told)
	}
}

func TestDimPowerTells(t *testing.T) {
	for _, c := range []struct {
		a    []int64
		n    int64
		want []int64
	}{
		{dim(1, 0, -1, 0, 0), 2, dim(2, 0, -2, 0, 0)}, {dim(1, 0, -1, 0, 0), -1, dim(-1, 0, 1, 0, 0)}, {dim(1, 2, -3, 4, -5), 1, dim(1, 2, -3, 4, -5)},
		{dim(9, -9, 9, -9, 9), 0, nought()}, {dim(9, -9, 9, -9, 9), -1, dim(-9, 9, -9, 9, -9)}, {nought(), 0, nought()},
		{dim(0, 0, 0, 0, 1), 9, dim(0, 0, 0, 0, 9)}, {dim(0, 0, 0, 0, 1), -9, dim(0, 0, 0, 0, -9)}, {dim(-3, 2, 1, 0, 0), -3, dim(9, -6, -3, 0, 0)},
		// Just none.
		{dim(1, 0, -1, 0, 0), 10, nil}, {dim(0, 0, 0, 0, 1), -10, nil}, {dim(5, 0, 0, 0, 0), 2, nil}, {dim(0, 0, 0, 0, -5), -2, nil}, {dim(1, 1, 4, 1, 1), 3, nil},
		// Nought stays nought by any number, and nothing else does, even if it would wrap round.
		{nought(), math.MinInt64, nought()}, {nought(), math.MaxInt64, nought()}, {nought(), 10, nought()}, {nought(), -10, nought()},
		{dim(2, 0, 0, 0, 0), math.MinInt64, nil}, {dim(4, -8, 0, 4, 0), twoTo62, nil}, {dim(0, 0, 0, 0, 8), 1<<61 + 1, nil},
		{dim(1, 0, 0, 0, 0), math.MaxInt64, nil}, {dim(0, 0, 0, 0, -1), math.MinInt64, nil}, {dim(3, 0, -3, 0, 6), -6148914691236517205, nil},
		{dim(2, -2, 4, 0, 0), math.MaxInt64, nil},
		// The power would be a dimension, but what is raised is none.
		{dim(10, 0, 0, 0, 0), 0, nil}, {dim(0, 0, 0, 0, -10), 0, nil}, {dim(0, 0, 0, 0), 0, nil}, {dim(0, 0, 0, 0, 0, 0), 0, nil}, {nil, 0, nil}, {nil, 1, nil},
		{dim(1, 2, 3, 4), 1, nil}, {dim(1, 2, 3, 4, 5, 6), 1, nil}, {dim(0, math.MinInt64, 0, 0, 0), 2, nil}, {dim(twoTo62, 0, 0, 0, 0), 4, nil},
	} {
		if got := impl.DimPower(c.a, c.n); !slices.Equal(got, c.want) {
			t.Errorf("DimPower(%v, %d): %v, not %v", c.a, c.n, got, c.want)
		}
	}
}

func TestDimPowerIsExact(t *testing.T) {
	told := map[bool]int{}
	for _, a := range append(everyPower(), nought()) {
		for _, n := range steepNumbers() {
			told[checkDimPower(t, a, n)]++
		}
	}
	if told[true] < 500 || told[false] < 1000 {
		t.Fatal("too few", told)
	}
}

// What is raised is what is multiplied with itself so often, and there and back is nought.
func TestDimPowerGoesByDimTimes(t *testing.T) {
	for _, a := range everyPower() {
		product, back := nought(), nought()
		for n := int64(0); n <= 10; n++ {
			power, inverse := impl.DimPower(a, n), impl.DimPower(a, -n)
			if !slices.Equal(power, product) || !slices.Equal(inverse, back) {
				t.Fatalf("DimPower(%v, %d): %v and %v, not %v and %v", a, n, power, inverse, product, back)
			}
			if len(power) > 0 && !slices.Equal(impl.DimTimes(power, inverse), nought()) {
				t.Fatalf("%v times %v", power, inverse)
			}
			product, back = impl.DimTimes(product, a), impl.DimTimes(back, impl.DimPower(a, -1))
		}
	}
}

func TestShowDimTells(t *testing.T) {
	for _, c := range []struct {
		d    []int64
		want string
	}{
		{dim(1, 0, -1, 0, 0), "L1 T-1"}, {nought(), "1"}, {dim(1, 1, -2, 0, 0), "L1 M1 T-2"}, {dim(2, 1, -3, -1, 0), "L2 M1 T-3 I-1"},
		{dim(1, 0, 0, 0, 0), "L1"}, {dim(0, 1, 0, 0, 0), "M1"}, {dim(0, 0, 1, 0, 0), "T1"}, {dim(0, 0, 0, 1, 0), "I1"}, {dim(0, 0, 0, 0, 1), "K1"},
		{dim(9, -9, 9, -9, 9), "L9 M-9 T9 I-9 K9"}, {dim(-1, -2, -3, -4, -5), "L-1 M-2 T-3 I-4 K-5"}, {dim(0, 0, 0, 0, -9), "K-9"}, {dim(3, 0, 0, 0, 7), "L3 K7"},
		{nil, ""}, {dim(), ""}, {dim(0, 0, 0, 0), ""}, {dim(0, 0, 0, 0, 0, 0), ""}, {dim(1, 0, -1, 0), ""}, {dim(1, 0, -1, 0, 0, 0), ""},
		{dim(10, 0, 0, 0, 0), ""}, {dim(0, 0, 0, 0, -10), ""}, {dim(0, 0, math.MinInt64, 0, 0), ""}, {dim(1, math.MaxInt64, 0, 0, 0), ""},
	} {
		if got := impl.ShowDim(c.d); got != c.want {
			t.Errorf("ShowDim(%v): %q, not %q", c.d, got, c.want)
		}
	}
}

// From its text each dimension can be read again.
func TestShowDimTellsEachPower(t *testing.T) {
	for _, d := range everyPower() {
		text := impl.ShowDim(d)
		read := nought()
		for _, word := range strings.Split(strings.TrimPrefix(text, "1"), " ") {
			if word != "" {
				power, err := strconv.Atoi(word[1:])
				if err != nil || power == 0 {
					t.Fatal(d, text)
				}
				read[strings.Index("LMTIK", word[:1])] += int64(power)
			}
		}
		if !slices.Equal(read, d) || text != exactShow(d) {
			t.Fatalf("ShowDim(%v): %q", d, text)
		}
	}
}

func times(n int, d []int64) [][]int64 { return slices.Repeat(dims(d), n) }

// tooGreatDims hang together by parts that would be right, but one fraction on the way to them is too great.
func tooGreatDims() [][][]int64 {
	return [][][]int64{
		dims(dim(8, 4, -9, -4, -6), dim(1, 1, 6, -8, 6), dim(-5, 8, -1, 1, 6), dim(3, -2, 4, 8, -1), dim(-1, 1, 7, 2, -8), dim(3, 1, -9, 8, -7)),
		dims(dim(-6, 2, 1, 7, -6), dim(-7, 2, -3, 7, 6), dim(0, 7, -7, -5, -3), dim(4, -3, -7, 6, 7), dim(7, 7, 1, 3, -2), dim(-4, -7, -1, -4, 0)),
		dims(dim(-3, 0, -8, 2, -5), dim(-6, -8, 0, 5, -1), dim(5, -7, -3, -7, 5), dim(1, 5, -8, 8, 6), dim(7, 2, 5, -1, 5), dim(6, -3, -2, 1, -4)),
		dims(dim(-9, 2, 0, 7, -7), dim(-6, -8, 2, -4, -5), dim(-7, -8, 9, -1, -2), dim(7, 0, 0, 4, -4), dim(-9, -7, -9, 7, -2), dim(1, 5, 6, -8, -5)),
	}
}

func TestGroupsTell(t *testing.T) {
	length, mass, time := dim(1, 0, 0, 0, 0), dim(0, 1, 0, 0, 0), dim(0, 0, 1, 0, 0)
	speed, density, viscosity, force := dim(1, 0, -1, 0, 0), dim(-3, 1, 0, 0, 0), dim(-1, 1, -1, 0, 0), dim(1, 1, -2, 0, 0)
	five := dims(length, mass, time, dim(0, 0, 0, 1, 0), dim(0, 0, 0, 0, 1))
	for _, c := range []struct{ list, want [][]int64 }{
		{dims(length, time, dim(1, 0, -2, 0, 0)), dims(dim(-1, 2, 1))},
		// A pendulum's time, length, mass and gravity; a ball that is drawn through water.
		{dims(time, length, mass, dim(1, 0, -2, 0, 0)), dims(dim(2, -1, 0, 1))},
		{dims(density, speed, length, viscosity, force), dims(dim(-1, -1, -1, 1, 0), dim(-1, -2, -2, 0, 1))},
		// Parts with unlike D: the least common multiple, not the product and not the greatest one.
		{dims(dim(2, 0, 0, 0, 0), dim(3, 0, 0, 0, 0)), dims(dim(-3, 2))}, {dims(dim(-2, 0, 0, 0, 0), dim(3, 0, 0, 0, 0)), dims(dim(3, 2))},
		{dims(dim(4, 0, 0, 0, 0), dim(6, 0, 0, 0, 0)), dims(dim(-3, 2))}, {dims(dim(2, 0, 0, 0, 0), dim(4, 0, 0, 0, 0)), dims(dim(-2, 1))},
		{dims(dim(4, -2, 0, 0, 0), dim(2, -1, 0, 0, 0)), dims(dim(-1, 2))},
		{dims(dim(2, 0, 0, 0, 0), dim(0, 3, 0, 0, 0), dim(1, 1, 0, 0, 0)), dims(dim(-3, -2, 6))},
		{dims(dim(4, 0, 0, 0, 0), dim(0, 6, 0, 0, 0), dim(1, 1, 0, 0, 0)), dims(dim(-3, -2, 12))},
		{dims(dim(2, 0, 0, 0, 0), dim(0, 8, 0, 0, 0), dim(1, 1, 0, 0, 0)), dims(dim(-4, -1, 8))},
		{dims(dim(6, 0, 0, 0, 0), dim(0, 0, 9, 0, 0), dim(4, 0, -6, 0, 0)), dims(dim(-2, 2, 3))},
		{dims(dim(9, 0, 0, 0, 0), dim(0, 8, 0, 0, 0), dim(0, 0, 7, 0, 0), dim(0, 0, 0, 6, 0), dim(0, 0, 0, 0, 5), dim(1, -1, 1, -1, 1)), dims(dim(-280, 315, -360, 420, -504, 2520))},
		// Each group has the multiple and the divisor of its own row.
		{dims(dim(6, 0, 0, 0, 0), dim(3, 0, 0, 0, 0), dim(4, 0, 0, 0, 0), dim(5, 0, 0, 0, 0)), dims(dim(-1, 2, 0, 0), dim(-2, 0, 3, 0), dim(-5, 0, 0, 6))},
		{times(2, force), dims(dim(-1, 1))}, {dims(speed, dim(-1, 0, 1, 0, 0)), dims(dim(1, 1))},
		{times(6, dim(9, -9, 9, -9, 9)), dims(dim(-1, 1, 0, 0, 0, 0), dim(-1, 0, 1, 0, 0, 0), dim(-1, 0, 0, 1, 0, 0), dim(-1, 0, 0, 0, 1, 0), dim(-1, 0, 0, 0, 0, 1))},
		// What is nought hangs together with nothing else.
		{dims(nought()), dims(dim(1))}, {dims(length, nought()), dims(dim(0, 1))}, {dims(nought(), length), dims(dim(1, 0))}, {dims(nought(), length, dim(2, 0, 0, 0, 0)), dims(dim(1, 0, 0), dim(0, -2, 1))},
		{times(6, nought()), dims(dim(1, 0, 0, 0, 0, 0), dim(0, 1, 0, 0, 0, 0), dim(0, 0, 1, 0, 0, 0), dim(0, 0, 0, 1, 0, 0), dim(0, 0, 0, 0, 1, 0), dim(0, 0, 0, 0, 0, 1))},
		// None that hang together.
		{dims(length), nil}, {dims(dim(0, 0, 0, 0, -9)), nil}, {dims(length, time), nil}, {dims(speed, length), nil}, {five, nil},
		{append(slices.Clone(five), dim(9, -8, 7, -6, 5)), dims(dim(-9, 8, -7, 6, -5, 1))},
	} {
		if got, is := impl.Groups(c.list); !is || !sameRows(got, c.want) {
			t.Errorf("Groups(%v): %v %v, not %v", c.list, got, is, c.want)
		}
		checkGroups(t, c.list)
	}
}

func TestGroupsRefuse(t *testing.T) {
	list := append(tooGreatDims(), nil, dims(), times(7, nought()), times(7, dim(1, 0, 0, 0, 0)), times(8, dim(1, 2, 3, 4, 5)), times(100000, nought()), dims(nil), dims(nil, nought()))
	for _, d := range list {
		if got, is := impl.Groups(d); is || len(got) > 0 {
			t.Errorf("Groups(%v): %v %v", d, got, is)
		}
	}
	for _, d := range tooGreatDims() {
		end, _ := exactEchelon(dimTable(d))
		if _, right := fittedRows(end.rows); !right || !end.tooGreat {
			t.Error("nothing on the way is too great, or the end is", d)
		}
		for left := range d {
			checkGroups(t, slices.Delete(slices.Clone(d), left, left+1))
		}
	}
}

func TestGroupsOfEachSize(t *testing.T) {
	for n := range 9 {
		for _, d := range everyPower() {
			if is := checkGroups(t, times(n, d)); is != (n > 0 && n < 7) {
				t.Fatal(n, d, is)
			}
		}
	}
}

func TestGroupsAreExact(t *testing.T) {
	told, unlike, tooGreat := map[int]int{}, 0, 0
	check := func(list [][]int64) {
		if !checkGroups(t, list) {
			tooGreat++
			return
		}
		groups, _ := impl.Groups(list)
		told[len(groups)]++
		for _, row := range impl.Kernel(dimTable(list)) {
			parts := map[int64]bool{}
			for _, r := range row {
				parts[r.D] = true
			}
			if len(parts) > 2 {
				unlike++
			}
		}
	}
	chanceDims(41, 3000, check)
	for _, list := range tooGreatDims() {
		check(list)
	}
	for n := range 6 {
		if told[n] < 500 {
			t.Error("too few of", n, "groups", told)
		}
	}
	if unlike < 300 || tooGreat < 4 {
		t.Error("too few", unlike, tooGreat)
	}
}

func TestAlikeTells(t *testing.T) {
	length, time, speed := dim(1, 0, 0, 0, 0), dim(0, 0, 1, 0, 0), dim(1, 0, -1, 0, 0)
	five, warm := dim(5, 0, 0, 0, 0), dim(0, 0, 0, 0, 5)
	for _, c := range []struct {
		list   [][]int64
		powers []int64
		want   []int64
	}{
		{dims(speed, time), dim(1, 1), length}, {dims(speed), dim(2), dim(2, 0, -2, 0, 0)}, {dims(length, time, dim(1, 0, -2, 0, 0)), dim(-1, 2, 1), nought()},
		{dims(dim(0, 1, 0, 0, 0), speed), dim(1, 2), dim(2, 1, -2, 0, 0)}, {dims(dim(1, 2, 3, 4, 4)), dim(-2), dim(-2, -4, -6, -8, -8)},
		{dims(speed), dim(1), speed}, {dims(speed), dim(0), nought()}, {dims(five, time), dim(0, 9), dim(0, 0, 9, 0, 0)}, {dims(five, warm), dim(0, 0), nought()},
		// No dimension at all.
		{nil, nil, nil}, {dims(), dim(), nil}, {dims(), nil, nil}, {nil, dim(), nil},
		// One power more or less than dimensions.
		{nil, dim(1), nil}, {nil, dim(0), nil}, {dims(speed), nil, nil}, {dims(speed), dim(1, 1), nil}, {dims(speed), dim(1, 0), nil}, {dims(speed, time), dim(1), nil},
		{dims(speed, nought()), dim(1), nil}, {dims(speed, time), dim(1, 1, 1), nil}, {dims(speed, time), dim(1, 1, 0), nil},
		// The product is just a dimension, or just none.
		{dims(five, length), dim(1, 4), dim(9, 0, 0, 0, 0)}, {dims(five, length), dim(1, 5), nil}, {dims(warm, dim(0, 0, 0, 0, -2)), dim(-1, 2), dim(0, 0, 0, 0, -9)},
		{dims(warm, dim(0, 0, 0, 0, -1)), dim(-1, 5), nil}, {dims(dim(9, -9, 9, -9, 9), dim(9, -9, 9, -9, 9)), dim(1, -1), nought()},
		// None on the way, although the end would be one: a product, and a power, the first or the last one.
		{dims(five, five, length), dim(1, 1, -1), nil}, {dims(five, length, five), dim(1, -1, 1), dim(9, 0, 0, 0, 0)}, {dims(length, five, five), dim(-1, 1, 1), dim(9, 0, 0, 0, 0)},
		{dims(warm, warm, dim(0, 0, 0, 0, 1)), dim(-1, -1, 3), nil}, {dims(five, length), dim(2, -1), nil}, {dims(length, five), dim(-1, 2), nil}, {dims(length, length), dim(10, -10), nil},
		{dims(length, length), dim(-10, 10), nil}, {dims(time, length), dim(3, 10), nil}, {dims(five, nought()), dim(2, 1), nil}, {dims(five, five), dim(1, 1), nil},
		// What wraps round is none.
		{dims(dim(2, 0, 0, 0, 0)), dim(math.MinInt64), nil}, {dims(dim(4, 0, 0, 0, 0), length), dim(twoTo62, 1), nil}, {dims(length, length), dim(math.MaxInt64, -math.MaxInt64), nil},
		{dims(nought(), speed), dim(math.MinInt64, 1), speed}, {dims(speed, nought()), dim(-1, math.MaxInt64), dim(-1, 0, 1, 0, 0)},
		// Six are as many as it takes; seven are refused, whatever their product.
		{times(6, length), dim(1, 1, 1, 1, 1, 1), dim(6, 0, 0, 0, 0)}, {times(7, length), dim(1, 1, 1, 1, 1, 1, 1), nil}, {times(6, warm), dim(1, -1, 1, -1, 1, -1), nought()},
		{times(6, length), dim(2, 2, 2, 1, 1, 1), dim(9, 0, 0, 0, 0)}, {times(6, length), dim(2, 2, 2, 2, 1, 1), nil}, {times(7, speed), make([]int64, 7), nil}, {times(7, nought()), make([]int64, 7), nil},
		{times(7, length), dim(1, 1, 1, 1, 1, 1), nil}, {times(6, length), dim(1, 1, 1, 1, 1, 1, 1), nil}, {times(9, time), slices.Repeat([]int64{-1}, 9), nil}, {times(10, time), slices.Repeat([]int64{-1}, 10), nil},
		{times(100000, speed), slices.Repeat([]int64{1, -1}, 50000), nil}, {times(100000, nought()), make([]int64, 100000), nil},
		// Something that is no dimension, though nothing is made of it.
		{dims(dim(10, 0, 0, 0, 0)), dim(0), nil}, {dims(speed, dim(0, 0, 0, 0)), dim(1, 0), nil}, {dims(nil, speed), dim(0, 1), nil}, {dims(speed, nil), dim(1, 0), nil},
		{dims(dim(10, 0, 0, 0, 0), dim(-10, 0, 0, 0, 0)), dim(1, 1), nil}, {dims(make([]int64, 6)), dim(1), nil},
	} {
		if got := impl.Alike(c.list, c.powers); !slices.Equal(got, c.want) {
			t.Errorf("Alike(%v, %v): %v, not %v", c.list, c.powers, got, c.want)
		}
	}
}

// Of 1 to 6 dimensions there is a product, of none and of seven there is not: the powers 0, and 1 and -1 by turns, keep
// every product a dimension, so that nothing but the number of them can be refused.
func TestAlikeOfEachSize(t *testing.T) {
	for n := range 9 {
		for _, d := range everyPower() {
			for _, powers := range dims(make([]int64, n), slices.Repeat([]int64{1, -1}, 4)[:n]) {
				if is := checkAlike(t, times(n, d), powers); is != (n > 0 && n < 7) {
					t.Fatal(n, d, powers, is)
				}
			}
		}
	}
}

// Alike of dimensions and of powers by chance, and of the groups that these have: what is told of a group is nought.
func TestAlikeIsExact(t *testing.T) {
	told, ofGroups := map[bool]int{}, 0
	var powers []int64
	chanceDims(42, 3000, func(list [][]int64) {
		for _, d := range list {
			powers = append(powers, d[4]/2, d[0])
		}
		told[checkAlike(t, list, powers[:len(list)])]++
		told[checkAlike(t, list, powers[len(powers)-len(list):])]++
		powers = powers[len(list):]
		groups, _ := impl.Groups(list)
		for _, group := range groups {
			if !checkAlike(t, list, group) {
				continue
			}
			ofGroups++
			if got := impl.Alike(list, group); !slices.Equal(got, nought()) {
				t.Fatalf("Alike(%v, %v): %v", list, group, got)
			}
		}
	})
	if told[true] < 3000 || told[false] < 3000 || ofGroups < 1000 {
		t.Fatal("too few", told, ofGroups)
	}
}
