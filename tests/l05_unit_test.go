package tests

import (
	"slices"
	"strings"
	"testing"

	"loop.example/g00069/impl"
)

func TestWordTells(t *testing.T) {
	length, mass, time, current, warmth := dim(1, 0, 0, 0, 0), dim(0, 1, 0, 0, 0), dim(0, 0, 1, 0, 0), dim(0, 0, 0, 1, 0), dim(0, 0, 0, 0, 1)
	pressure, energy, power := dim(-1, 1, -2, 0, 0), dim(2, 1, -2, 0, 0), dim(2, 1, -3, 0, 0)
	for _, c := range []struct {
		s      string
		factor ratio
		d      []int64
	}{
		{"m", frac(1, 1), length}, {"g", frac(1, 1000), mass}, {"s", frac(1, 1), time}, {"A", frac(1, 1), current}, {"K", frac(1, 1), warmth},
		{"min", frac(60, 1), time}, {"h", frac(3600, 1), time}, {"Hz", frac(1, 1), dim(0, 0, -1, 0, 0)}, {"N", frac(1, 1), dim(1, 1, -2, 0, 0)},
		{"Pa", frac(1, 1), pressure}, {"J", frac(1, 1), energy}, {"W", frac(1, 1), power}, {"V", frac(1, 1), dim(2, 1, -3, -1, 0)},
		{"in", frac(127, 5000), length}, {"C", frac(1, 1), warmth},
		{"km", frac(1000, 1), length}, {"cm", frac(1, 100), length}, {"mm", frac(1, 1000), length}, {"um", frac(1, 1000000), length}, {"Mm", frac(1000000, 1), length},
		{"kg", frac(1, 1), mass}, {"mg", frac(1, 1000000), mass}, {"Mg", frac(1000, 1), mass}, {"cg", frac(1, 100000), mass}, {"MPa", frac(1000000, 1), pressure},
		{"kJ", frac(1000, 1), energy}, {"mW", frac(1, 1000), power}, {"MW", frac(1000000, 1), power}, {"uA", frac(1, 1000000), current}, {"mK", frac(1, 1000), warmth},
		// Just a fraction, and with a 127 in it: of all words uin alone is too great.
		{"ug", frac(1, maxPart), mass}, {"kin", frac(127, 5), length}, {"cin", frac(127, 500000), length}, {"Min", frac(25400, 1), length},
	} {
		if factor, d, is := impl.Word(c.s); !is || factor != c.factor || !slices.Equal(d, c.d) {
			t.Errorf("Word(%q): %v %v %v, not %v %v", c.s, factor, d, is, c.factor, c.d)
		}
	}
}

// noWords are none, each for a reason of its own; none of them is a unit text either.
func noWords() []string {
	return []string{"", " ", "uin", "k", "c", "u", "M", "kk", "kkm", "kMm", "ckm", "mkg", "kcg", "umm", "mmm", "kmin", "cmin", "mmin", "umin", "Mmin", "kh", "ch", "mh", "uh", "Mh",
		"kC", "cC", "mC", "uC", "MC", "Km", "KM", "kM", "Cm", "Um", "hz", "HZ", "hZ", "pa", "PA", "pA", "MIN", "mIn", "IN", "In", "a", "n", "j", "w", "v", "S", "G", "H", "KG", "kG",
		"m ", " m", "k m", "km ", "m1", "1m", "mi", "i", "H", "z", "P", "dm", "nm", "Gm", "hm", "l", "t", "Ohm", "kkg", "meter", "minmin", "mm\x00", "\x00m", "m,", "-m", "m-",
		"\xffm", "m\xff", "\xb5m", "µm", "°C", "\u212a", "Ω", strings.Repeat("m", 100000)}
}

func TestWordRefuses(t *testing.T) {
	for _, s := range append(noWords(), "1", "m^1", "m^2", "m^-1", "m.s", "m/s", "m.", ".m", "/m", "m/", "m^", "^m") {
		if factor, d, is := impl.Word(s); is || factor != zero || len(d) > 0 {
			t.Errorf("Word(%.20q): %v %v %v", s, factor, d, is)
		}
	}
}

// Promise 5, its last part: each unit is what its own line tells, whatever prefix it begins with.
func TestNoPrefixHidesAUnit(t *testing.T) {
	hidden := 0
	for part := range strings.SplitSeq(unitSentence, ", ") {
		words := strings.Fields(part)
		factor, d, is := impl.Word(words[0])
		told := impl.ShowDim(d) + " " + impl.ShowRatio(factor)
		if !is || told != strings.Join(words[1:], " ") {
			t.Errorf("Word(%q): %q", words[0], told)
		}
		_, _, rest := impl.Word(words[0][1:])
		if slices.Contains(prefixNames, words[0][:1]) && rest {
			hidden++
		}
	}
	if hidden != 1 {
		t.Error("a prefix and a unit, too:", hidden)
	}
}

// Every unit, every prefix with every unit, with every word, and with each of these in other letters.
func TestWordOfEveryPrefix(t *testing.T) {
	told := 0
	for _, name := range unitNames {
		checkWord(t, name)
		for _, prefix := range prefixNames {
			if checkWord(t, prefix+name) {
				told++
			}
			checkWord(t, name+prefix)
			checkWord(t, prefix+" "+name)
		}
	}
	// Five with each of twelve units, but uin, and one of them is min, which hides m with in.
	if told != 5*12-1 || len(wordNames) != 15+5*12-2 {
		t.Error(told, len(wordNames))
	}
	for _, name := range append(wordNames, prefixNames...) {
		checkWord(t, strings.ToUpper(name))
		checkWord(t, strings.ToLower(name))
		checkWord(t, strings.ToUpper(name[:1])+name[1:])
		checkWord(t, name[:1]+strings.ToUpper(name[1:]))
		for _, other := range append(wordNames, prefixNames...) {
			checkWord(t, name+other)
		}
	}
}

func TestWordOfEveryShortText(t *testing.T) {
	told := 0
	check := func(s string) {
		if checkWord(t, s) {
			told++
		}
	}
	everyText(everyByte(), 2, check)
	everyText("ACHJKMNPVWaceghikmnsuz1^. ", 3, check)
	for _, name := range wordNames {
		oneByteOff(name, everyByte(), check)
	}
	if told < 150 {
		t.Error("too few", told)
	}
}

func TestBothTells(t *testing.T) {
	for _, s := range append(noWords(), wordNames...) {
		if got := impl.Both(s); got != (s == "min") {
			t.Errorf("Both(%.20q): %v", s, got)
		}
	}
	for _, s := range []string{"min^1", "min.m", "min/s", "s/min", " min", "min ", "Min", "MIN", "m.in", "m in", "minin", "m/in"} {
		if impl.Both(s) {
			t.Errorf("Both(%q)", s)
		}
	}
}

func TestUnitOfTells(t *testing.T) {
	for _, c := range []struct {
		s      string
		factor ratio
		dim    string
	}{
		{"1", frac(1, 1), "1"}, {"m", frac(1, 1), "L1"}, {"km", frac(1000, 1), "L1"}, {"kg.m^2/s^2", frac(1, 1), "L2 M1 T-2"}, {"km/h", frac(5, 18), "L1 T-1"}, {"g/cm^3", frac(1000, 1), "L-3 M1"},
		{"min", frac(60, 1), "T1"}, {"m.in", frac(127, 5000), "L2"}, {"min.h/s", frac(216000, 1), "T1"}, {"s.Hz", frac(1, 1), "1"}, {"m/m", frac(1, 1), "1"}, {"km/mm", frac(1000000, 1), "1"},
		{"m.s.A.K.g", frac(1, 1000), "L1 M1 T1 I1 K1"}, {"J/kg.K", frac(1, 1), "L2 T-2 K-1"}, {"m/s.s", frac(1, 1), "L1 T-2"}, {"W/m^2.K", frac(1, 1), "M1 T-3 K-1"}, {"kg/h.min", frac(1, 216000), "M1 T-2"},
		{"C", frac(1, 1), "K1"}, {"C^1", frac(1, 1), "K1"}, {"C^-2", frac(1, 1), "K-2"}, {"C/s", frac(1, 1), "T-1 K1"}, {"m.C", frac(1, 1), "L1 K1"},
		// Powers of either sign, on either side of the /.
		{"m^1", frac(1, 1), "L1"}, {"m^-1", frac(1, 1), "L-1"}, {"m^9", frac(1, 1), "L9"}, {"m^-9", frac(1, 1), "L-9"}, {"s/m^9", frac(1, 1), "L-9 T1"}, {"s/m^-9", frac(1, 1), "L9 T1"},
		{"km^-1", frac(1, 1000), "L-1"}, {"km^2", frac(1000000, 1), "L2"}, {"s/km^-2", frac(1000000, 1), "L2 T1"}, {"s/km^2", frac(1, 1000000), "L-2 T1"}, {"h^-2", frac(1, 12960000), "T-2"},
		{"in^2", frac(16129, 25000000), "L2"}, {"in^-2", frac(25000000, 16129), "L-2"}, {"m/in^2", frac(25000000, 16129), "L-1"}, {"g^-1", frac(1000, 1), "M-1"}, {"m/g^-2", frac(1, 1000000), "L1 M2"},
		// A factor that is just a fraction.
		{"km^3", frac(maxPart, 1), "L3"}, {"mm^3", frac(1, maxPart), "L3"}, {"km^-3", frac(1, maxPart), "L-3"}, {"g^-3", frac(maxPart, 1), "M-3"}, {"Mm.km", frac(maxPart, 1), "L2"}, {"um/km", frac(1, maxPart), "1"},
		{"ug", frac(1, maxPart), "M1"}, {"min^5", frac(777600000, 1), "T5"}, {"s/min^5", frac(1, 777600000), "T-4"},
		// A power that by itself would be too great, but isn't so on the way: it goes by single steps.
		{"mm.km^4", frac(maxPart, 1), "L5"}, {"Mm/Mm^2", frac(1, 1000000), "L-1"}, {"um^-1.um^2", frac(1, 1000000), "L1"}, {"km.km/km^5", frac(1, maxPart), "L-3"}, {"km^3/km^6", frac(1, maxPart), "L-3"},
		// A product that is just a dimension.
		{"m^4.m^5", frac(1, 1), "L9"}, {"m^9/m^9", frac(1, 1), "1"}, {"J^4", frac(1, 1), "L8 M4 T-8"}, {"W^3", frac(1, 1), "L6 M3 T-9"}, {"V^-3", frac(1, 1), "L-6 M-3 T9 I3"}, {"s/Hz^8", frac(1, 1), "T9"},
		{"K^4.C^5", frac(1, 1), "K9"}, {"m^-4/m^5", frac(1, 1), "L-9"}, {"m^9/m.m^-1", frac(1, 1), "L9"},
		// A power that by itself would be no dimension, but isn't none on the way.
		{"s.N^5", frac(1, 1), "L5 M5 T-9"}, {"Hz/N^5", frac(1, 1), "L-5 M-5 T9"}, {"s^9.W^4", frac(1, 1), "L8 M4 T-3"},
	} {
		factor, d, is := impl.UnitOf(c.s)
		if !is || factor != c.factor || impl.ShowDim(d) != c.dim || impl.ShowDim(impl.Dims(c.s)) != c.dim {
			t.Errorf("UnitOf(%q): %v %v %v, not %v %s; Dims: %v", c.s, factor, d, is, c.factor, c.dim, impl.Dims(c.s))
		}
	}
}

// noUnits are none by their form.
func noUnits() []string {
	list := []string{"1.1", "11", "-1", "+1", "01", "1.0", "0", "2", "1 ", " 1", "1.", ".1", "1/", "/1", "1.m", "m.1", "1/s", "m/1", "1^1", "1^2", "1^-1", "1m", "m1", "k1", "1/1",
		"m^", "m^0", "m^00", "m^01", "m^09", "m^-0", "m^-01", "m^10", "m^-10", "m^11", "m^-11", "m^99", "m^19", "m^1000000001", "m^18446744073709551617", "m^+1", "m^ 1", "m^1 ", "m^- 1", "m ^1", "m^--1", "m^-", "m^-+1",
		"m^+-1", "m^1-", "m^1^1", "m^2^2", "m^^1", "m^1^", "^1", "^", "^m", "m^m", "m^1m", "m^1.5", "m^1/2", "m^1/", "m^1.", "m2", "m-1", "m^/s", "m^.s", "m^-/s", "m^-.s", "m^٣", "m^²", "m²", "m^:", "m^/", "m^\x00",
		// Powers that are none although the product would be a dimension.
		"m^-1.m^10", "m.m^-10", "m^-9.m^10", "m^9.m^-10", "m^-1/m^-10", "m/m^10", "m^-9.m^18", "m^-1.m^:", "m^-3.m^11", "m^-3.m^12", "m^1.m^0", "m.s^0", "m/s^0", "m.s^-0", "m^0/m^0", "m^-1.m^010",
		".m", "m.", "m..s", "m/", "/m", "/", ".", "..", "//", "/.", "./", "m//s", "m/s/h", "m/s/", "/m/s", "m/.s", "m./s", "m.s/", "m/s.", "m/s..h", ".m/s", "m.s/h.K/A", "m/s.h/K", "m/^2", "m.^2", "m^2/^2",
		"m s", "m *s", "m*s", "m·s", "m,s", "m. s", "m .s", "m/ s", "m /s", "m\n", "\nm", "m\n.s", "m\x00", "m\xff.s", "m.\xff", "m.s^2\xff", "(m)", "m^(2)", "m|s", "m\\s", "m\r\n", "m\t", "KM/h", "km/H", "kmin.m", "m/kC", "m.uin", "uin^-1"}
	for _, s := range noWords() {
		list = append(list, s, s+"^2", s+"^-1", "m."+s, s+".m", "m/"+s, s+"/m", "m."+s+"/s", "m/"+s+".s", "1"+s+"1")
	}
	return list
}

func refusedUnit(t *testing.T, s string) {
	t.Helper()
	if factor, d, is := impl.UnitOf(s); is || factor != zero || len(d) > 0 || len(impl.Dims(s)) > 0 {
		t.Errorf("UnitOf(%.20q): %v %v %v; Dims: %v", s, factor, d, is, impl.Dims(s))
	}
}

func TestUnitOfRefusesWhatIsNone(t *testing.T) {
	for _, s := range noUnits() {
		refusedUnit(t, s)
		if _, is := exactSteps(s); is {
			t.Errorf("%.20q is a unit text", s)
		}
	}
}

func TestUnitOfRefusesAtTheEnd(t *testing.T) {
	for _, s := range []string{
		// A factor that is too great.
		"km^4", "km^-4", "mm^4", "g^4", "Mm^2", "um^2", "um^-2", "h^3", "h^-3", "min^6", "in^3", "in^-3", "Mm.Mm", "km.Mm.m.km", "um/Mm", "Mm/um", "ug.mm", "Mm.km.min", "mm^2.um", "kin.h^2.h", "m/in^3", "s/um^2",
		// No dimension.
		"m^9.m", "m.m^9", "m^-9/m", "m^9/m^-1", "K^9.C", "C^9.K", "J^5", "W^4", "V^4", "N^5", "Pa^-5", "J^9", "J^-9", "Hz^9/s", "s^9/Hz", "m/J^5", "s^9.h", "A^-9/A", "N^4.g^6",
	} {
		refusedUnit(t, s)
		if steps, is := exactSteps(s); !is || steps[len(steps)-1].right() {
			t.Errorf("%q is none, or right", s)
		}
	}
}

func TestUnitOfRefusesOnTheWay(t *testing.T) {
	for _, s := range []string{
		// A factor that is too great, though the end would be a fraction.
		"km^4/km", "km^4.km^-1", "mm^4.km^4", "Mm.Mm/Mm", "Mm^2/Mm^2", "Mm^2.um^2", "um.um/um", "um^2.Mm", "km^4.mm", "km^-4.km", "m/km^4.mm^4", "in^3/in^3", "in.in.in/in", "Mm.Mm.um", "um/km.km.mm^2", "h^3/s.h^3",
		// No dimension, though the end would be one.
		"m^9.m/m", "m^9.m.m^-1", "m^9.m^9/m^9", "m^5.m^5/m", "m^-9.m^-1.m", "m^-9/m.m^-1", "J^5/J", "J^5/J^5", "N^5.s", "W^4.s^9", "W^4/Hz^3", "K^9.C/C", "m/m^9.m^2.m^-3", "Hz^9.Hz.s", "A^9.A.A^-9", "m^9.m.s/m^5",
	} {
		refusedUnit(t, s)
		if steps, is := exactSteps(s); !is || !steps[len(steps)-1].right() {
			t.Errorf("%q is none, or the end isn't right", s)
		}
	}
}

// What is a product of more words than any dimension has powers is one, too.
func TestUnitOfManyWords(t *testing.T) {
	for _, s := range []string{"s.Hz", "km.mm.m^-2", "m^9.m^-9", "J.N^-1.m^-1", "C.K^-1.A.A^-1"} {
		long := strings.TrimSuffix(strings.Repeat(s+".", 4000), ".")
		factor, d, is := impl.UnitOf(long)
		if !is || factor != frac(1, 1) || !slices.Equal(d, nought()) {
			t.Errorf("UnitOf of %q, often: %v %v %v", s, factor, d, is)
		}
		refusedUnit(t, long+".")
		refusedUnit(t, long+".1")
		checkUnit(t, long+".min")
		checkUnit(t, long+"/min")
		checkUnit(t, "m/"+long)
	}
}

func TestUnitOfEveryShortText(t *testing.T) {
	told := 0
	check := func(s string) {
		if checkUnit(t, s) {
			told++
		}
	}
	everyText(everyByte(), 2, check)
	everyText("mksC129-0./^ +", 4, check)
	everyText("mg2-./^", 6, check)
	for _, name := range wordNames {
		for _, power := range []string{"", "^1", "^-1", "^2", "^-2", "^3", "^5", "^9", "^-9", "^0", "^10", "^-10"} {
			check(name + power)
			check("m/" + name + power)
			check("mm." + name + power + ".s")
		}
	}
	for _, s := range []string{"kg.m^2/s^-2", "1", "C", "min", "cm^-3/MPa.A"} {
		oneByteOff(s, everyByte(), check)
	}
	if told < 1500 {
		t.Error("too few", told)
	}
}

func TestUnitOfIsExact(t *testing.T) {
	told, onTheWay := map[bool]int{}, 0
	chanceUnits(51, 60000, func(s string) {
		told[checkUnit(t, s)]++
		steps, is := exactSteps(s)
		if _, right := exactUnit(s); is && !right && steps[len(steps)-1].right() {
			onTheWay++
		}
	})
	if told[true] < 10000 || told[false] < 10000 || onTheWay < 500 {
		t.Error("too few", told, onTheWay)
	}
}

// Of one word after another, each with its power 1, the dimension is what Alike tells, and the factor the product.
func TestUnitOfGoesByItsWords(t *testing.T) {
	for _, a := range wordNames {
		for _, b := range wordNames {
			f, d, _ := impl.Word(a)
			g, e, _ := impl.Word(b)
			product, is := impl.Mul(f, g)
			if got, powers, told := impl.UnitOf(a + "." + b); told != is || got != product || told && !slices.Equal(powers, impl.Alike(dims(d, e), dim(1, 1))) {
				t.Fatal(a, b, got, powers, told)
			}
			part, is := impl.Div(f, g)
			if got, powers, told := impl.UnitOf(a + "/" + b); told != is || got != part || told && !slices.Equal(powers, impl.Alike(dims(d, e), dim(1, -1))) {
				t.Fatal(a, b, got, powers, told)
			}
		}
	}
}

func TestConvertedTells(t *testing.T) {
	for _, c := range []struct {
		v        ratio
		from, to string
		want     ratio
	}{
		{frac(36, 1), "km/h", "m/s", frac(10, 1)}, {frac(10, 1), "m/s", "km/h", frac(36, 1)}, {frac(1, 1), "in", "cm", frac(127, 50)}, {frac(127, 50), "cm", "in", frac(1, 1)}, {frac(90, 1), "min", "h", frac(3, 2)},
		{frac(-3, 2), "h", "min", frac(-90, 1)}, {frac(0, 1), "km", "in", frac(0, 1)}, {frac(-5, 7), "m", "mm", frac(-5000, 7)}, {frac(1, 1), "kg.m^2/s^2", "J", frac(1, 1)}, {frac(3, 1), "V.A", "mW", frac(3000, 1)},
		{frac(1, 1), "Hz", "min^-1", frac(60, 1)}, {frac(7, 1), "1", "m/m", frac(7, 1)}, {frac(7, 1), "km/m", "1", frac(7000, 1)}, {frac(2, 3), "1", "1", frac(2, 3)}, {frac(1, 1), "min", "s", frac(60, 1)}, {frac(1, 1), "m.in", "m^2", frac(127, 5000)},
		{frac(1, 1), "in^2", "cm^2", frac(16129, 2500)}, {frac(1, 1), "W.h", "kJ", frac(18, 5)}, {frac(1, 1), "Pa.m^2", "N", frac(1, 1)}, {frac(-4, 1), "m/s^2", "m.Hz^2", frac(-4, 1)},
		// C alone has its zero, on either side and on both.
		{frac(20, 1), "C", "K", frac(5863, 20)}, {frac(5863, 20), "K", "C", frac(20, 1)}, {frac(0, 1), "C", "K", frac(5463, 20)}, {frac(0, 1), "K", "C", frac(-5463, 20)}, {frac(-5463, 20), "C", "K", frac(0, 1)},
		{frac(-40, 1), "C", "C", frac(-40, 1)}, {frac(0, 1), "C", "C", frac(0, 1)}, {frac(1, 3), "C", "C", frac(1, 3)}, {frac(20, 1), "C", "mK", frac(293150, 1)}, {frac(293150, 1), "mK", "C", frac(20, 1)}, {frac(20, 1), "K", "K", frac(20, 1)},
		{frac(20, 1), "C", "kK", frac(5863, 20000)}, {frac(1, 1), "MK", "C", frac(20000000-5463, 20)}, {frac(20, 1), "C", "K.m/m", frac(5863, 20)}, {frac(20, 1), "K^1", "C", frac(400-5463, 20)},
		// C with a power, or with another word, has none.
		{frac(20, 1), "C^1", "K", frac(20, 1)}, {frac(20, 1), "K", "C^1", frac(20, 1)}, {frac(20, 1), "C^1", "C^1", frac(20, 1)}, {frac(20, 1), "C^1", "C", frac(400-5463, 20)}, {frac(20, 1), "C", "C^1", frac(5863, 20)},
		{frac(20, 1), "C^-1", "K^-1", frac(20, 1)}, {frac(20, 1), "C^2", "K^2", frac(20, 1)}, {frac(20, 1), "C/s", "K/s", frac(20, 1)}, {frac(20, 1), "m.C", "m.K", frac(20, 1)}, {frac(20, 1), "C.m/m", "K", frac(20, 1)}, {frac(20, 1), "K", "m.C/m", frac(20, 1)},
		{frac(20, 1), "J/kg.C", "J/kg.K", frac(20, 1)}, {frac(20, 1), "C/min", "K/h", frac(1200, 1)}, {frac(20, 1), "C.C^-1", "1", frac(20, 1)},
		// Just a fraction.
		{frac(1000000, 1), "km", "m", frac(maxPart, 1)}, {frac(-1000000, 1), "km", "m", frac(-maxPart, 1)}, {frac(1, 1000000), "m", "km", frac(1, maxPart)}, {frac(maxPart, 1), "m", "km", frac(1000000, 1)}, {frac(1, maxPart), "m", "mm", frac(1, 1000000)},
		{frac(maxPart, 1), "m", "m", frac(maxPart, 1)}, {frac(-1, maxPart), "s", "s", frac(-1, maxPart)}, {frac(49999726, 1), "C", "K", frac(999999983, 20)}, {frac(-50000273, 1), "C", "K", frac(-999999997, 20)}, {frac(50000273, 1), "K", "C", frac(999999997, 20)},
		{frac(-49999726, 1), "K", "C", frac(-999999983, 20)}, {frac(49999726, 1), "C", "C", frac(49999726, 1)}, {frac(1000, 1), "Mm", "m", frac(maxPart, 1)}, {frac(1, 1), "km^3", "m^3", frac(maxPart, 1)}, {frac(1, 1), "m^3", "km^3", frac(1, maxPart)},
	} {
		if got, is := impl.Converted(c.v, c.from, c.to); !is || got != c.want {
			t.Errorf("Converted(%v, %q, %q): %v %v, not %v", c.v, c.from, c.to, got, is, c.want)
		}
	}
}

func TestConvertedRefuses(t *testing.T) {
	for _, c := range []struct {
		v        ratio
		from, to string
	}{
		// Unlike dimensions.
		{frac(1, 1), "m", "s"}, {frac(0, 1), "m", "s"}, {frac(1, 1), "m", "1"}, {frac(1, 1), "1", "m"}, {frac(1, 1), "m", "m^2"}, {frac(1, 1), "Hz", "s"}, {frac(1, 1), "C", "J"}, {frac(1, 1), "C", "1"}, {frac(1, 1), "s", "C"}, {frac(1, 1), "C", "C^2"},
		{frac(1, 1), "C", "C/s"}, {frac(1, 1), "N", "Pa"}, {frac(1, 1), "J", "W"}, {frac(1, 1), "V", "W"}, {frac(1, 1), "g", "K"}, {frac(1, 1), "A", "K"}, {frac(1, 1), "min", "m.in"}, {frac(1, 1), "m/s", "s/m"},
		// None on either side.
		{frac(1, 1), "", "m"}, {frac(1, 1), "m", ""}, {frac(1, 1), "", ""}, {frac(1, 1), "meter", "m"}, {frac(1, 1), "m", "meter"}, {frac(1, 1), "x", "x"}, {frac(1, 1), "kC", "K"}, {frac(1, 1), "K", "mC"}, {frac(1, 1), " C", "K"}, {frac(1, 1), "C ", "K"}, {frac(1, 1), "c", "K"},
		{frac(1, 1), "km^4", "km^4"}, {frac(1, 1), "m^4", "km^4"}, {frac(1, 1), "m^9.m", "m^9.m"}, {frac(1, 1), "uin", "m"}, {frac(1, 1), "m", "uin"}, {frac(0, 1), "uin", "uin"}, {frac(1, 1), "J^5/J", "J^4"}, {frac(1, 1), "1/s", "Hz"}, {frac(1, 1), "Hz", "1/s"},
		// What v is multiplied with, or divided by, makes it too great.
		{frac(1000001, 1), "km", "m"}, {frac(-1000001, 1), "km", "m"}, {frac(1, 1000001), "m", "km"}, {frac(maxPart, 1), "m", "mm"}, {frac(1, maxPart), "mm", "m"}, {frac(1, maxPart), "m", "km"}, {frac(-maxPart, 1), "h", "s"}, {frac(1, maxPart), "m", "in^3/m^2"},
		// So it does on the way, though the end would be a fraction.
		{frac(maxPart, 1), "km", "km"}, {frac(1, maxPart), "mm", "mm"}, {frac(maxPart, 1), "km", "Mm"}, {frac(1, maxPart), "um", "mm"}, {frac(-maxPart, 1), "min", "h"}, {frac(1, 1000001), "mm", "um"},
		// The zero makes it too great, put in at first or taken in the end, though the end would be a fraction.
		{frac(49999727, 1), "C", "K"}, {frac(49999727, 1), "C", "C"}, {frac(49999727, 1), "C", "kK"}, {frac(-50000274, 1), "C", "K"}, {frac(-50000274, 1), "C", "C"}, {frac(50000274, 1), "K", "C"}, {frac(-49999727, 1), "K", "C"}, {frac(maxPart, 1), "C", "K"},
		{frac(1, maxPart), "C", "C"}, {frac(1, maxPart), "C", "K"}, {frac(1, maxPart), "K", "C"}, {frac(1, 999999999), "C", "K"}, {frac(1, 999999999), "C", "C"}, {frac(maxPart, 1), "K", "C"},
	} {
		if got, is := impl.Converted(c.v, c.from, c.to); is || got != zero {
			t.Errorf("Converted(%v, %q, %q): %v %v", c.v, c.from, c.to, got, is)
		}
	}
}

// likeUnits are texts with one dimension in each row; the last row has what is C alone among what is not.
func likeUnits() [][]string {
	return [][]string{
		{"m", "km", "cm", "mm", "um", "Mm", "in", "kin", "cin", "Min", "m^2/m", "m/s/s", "m.s/h", "km^2/cm", "uin", "N/Pa.m", "s^-1/m^-1.s^-1"},
		{"s", "min", "h", "ks", "us", "Hz^-1", "kHz^-1", "mHz^-2/s", "m/km.Hz", "h^2/min", "min.min/h"},
		{"1", "m/m", "km/m", "s.Hz", "min.Hz", "in/m", "J/N.m", "h/min", "um/mm", "C/K", "m^9/m^9"},
		{"m/s", "km/h", "in/min", "m.Hz", "mm/us", "cm/h", "J/N.s", "Mm/ks"},
		{"J", "kJ", "N.m", "W.s", "W.h", "kW.h", "V.A.s", "kg.m^2/s^2", "g.in^2/min^2", "Pa.m^3", "MJ", "uJ"},
		{"Pa", "MPa", "N/m^2", "kN/in^2", "J/m^3", "kg/m.s^2", "g/cm.s^2", "N/cm^2"},
		{"K", "C", "mK", "kK", "uK", "MK", "cK", "C^1", "K^1", "C.m/m", "m.C/m", "C/1", "C.K/C", "C^2/K", "kC", "K^-1/C^-2", "V.K/V"},
	}
}

func someValues() []ratio {
	return []ratio{frac(0, 1), frac(1, 1), frac(-7, 3), frac(20, 1), frac(-5463, 20), frac(-5000, 127), frac(3600, 1), frac(999, 1000), frac(1000000, 1), frac(1, 1000000), frac(49999726, 1), frac(49999727, 1), frac(-50000273, 1), frac(maxPart, 1), frac(-maxPart, 1), frac(1, maxPart), frac(-1, maxPart)}
}

func TestConvertedIsExact(t *testing.T) {
	told := map[bool]int{}
	for _, v := range append(someValues(), wrongRatios()[:6]...) {
		for _, row := range likeUnits() {
			for _, from := range row {
				for _, to := range row {
					told[checkConverted(t, v, from, to)]++
				}
			}
		}
	}
	for _, from := range wordNames {
		for _, to := range wordNames {
			told[checkConverted(t, frac(-5, 4), from, to)]++
		}
	}
	for _, v := range append(rightRatios(), wrongRatios()...) {
		for _, unit := range []string{"C", "K", "mK", "kK", "C^1"} {
			told[checkConverted(t, v, unit, "C")]++
			told[checkConverted(t, v, "C", unit)]++
		}
	}
	if told[true] < 8000 || told[false] < 8000 {
		t.Error("too few", told)
	}
}

// Promise 5, its first part: what comes back is what went out, and what goes by a third one comes where it comes
// straight, wherever these are told.
func TestConvertedThereAndBackAndByAThirdOne(t *testing.T) {
	back, third := 0, 0
	for _, row := range likeUnits() {
		for _, v := range someValues() {
			for _, a := range row {
				for _, b := range row {
					there, is := impl.Converted(v, a, b)
					if !is {
						continue
					}
					if again, told := impl.Converted(there, b, a); told {
						back++
						if again != v {
							t.Fatalf("%v %q is %v %q, and this is %v", v, a, there, b, again)
						}
					}
					third += byAThirdOne(t, v, a, b, there, row)
				}
			}
		}
	}
	if back < 5000 || third < 50000 {
		t.Error("too few", back, third)
	}
}

func byAThirdOne(t *testing.T, v ratio, a string, b string, there ratio, row []string) int {
	t.Helper()
	told := 0
	for _, c := range row {
		straight, is := impl.Converted(v, a, c)
		onward, ends := impl.Converted(there, b, c)
		if is && ends {
			told++
			if straight != onward {
				t.Fatalf("%v %q is %v %q, but by %q %v", v, a, straight, c, b, onward)
			}
		}
	}
	return told
}

// Whatever is small enough comes back, and by each third one, with no step left out.
func TestConvertedOfSmallOnesIsTold(t *testing.T) {
	for _, row := range [][]string{{"m", "km", "cm", "mm", "in"}, {"s", "min", "h", "ks"}, {"K", "C", "mK", "kK", "C^1"}, {"J", "kJ", "W.h", "N.m"}, {"1", "km/m", "h/min"}} {
		for n := int64(-99); n <= 99; n += 3 {
			for _, a := range row {
				for _, b := range row {
					there, is := impl.Converted(frac(n, 1), a, b)
					again, told := impl.Converted(there, b, a)
					if !is || !told || again != frac(n, 1) || byAThirdOne(t, frac(n, 1), a, b, there, row) != len(row) {
						t.Fatal(n, a, b, there, is, again, told)
					}
				}
			}
		}
	}
}
