package tests

import (
	"math/big"
	"math/rand"
	"regexp"
	"slices"
	"strings"
	"testing"

	"loop.example/g00069/impl"
)

// The chapter's own sentences, as they stand there.
const (
	unitSentence   = "m L1 1, g M1 1/1000, s T1 1, A I1 1, K K1 1, min T1 60, h T1 3600, Hz T-1 1, N L1 M1 T-2 1, Pa L-1 M1 T-2 1, J L2 M1 T-2 1, W L2 M1 T-3 1, V L2 M1 T-3 I-1 1, in L1 127/5000, C K1 1"
	prefixSentence = "k 1000, c 1/100, m 1/1000, u 1/1000000, M 1000000"
	bareUnits      = "min h C"
)

// A meaning is what a text stands for: an exact factor, and five powers.
type meaning struct {
	factor *big.Rat
	powers [5]int64
}

var (
	prefixNames = firstWords(prefixSentence)
	unitNames   = firstWords(unitSentence)
	wordMeaning = meanings()
	wordNames   = sortedNames()
	unitForm    = formOfUnits()
)

func firstWords(sentence string) []string {
	var list []string
	for part := range strings.SplitSeq(sentence, ", ") {
		list = append(list, strings.Fields(part)[0])
	}
	return list
}

// meanings has all words; what is a unit is put over what is a prefix and a unit.
func meanings() map[string]meaning {
	plain, all := map[string]meaning{}, map[string]meaning{}
	for part := range strings.SplitSeq(unitSentence, ", ") {
		words := strings.Fields(part)
		m := meaning{factor: new(big.Rat)}
		m.factor.SetString(words[len(words)-1])
		for _, word := range words[1 : len(words)-1] {
			power := new(big.Rat)
			power.SetString(word[1:])
			m.powers[strings.Index("LMTIK", word[:1])] = power.Num().Int64()
		}
		plain[words[0]] = m
	}
	for part := range strings.SplitSeq(prefixSentence, ", ") {
		words := strings.Fields(part)
		times := new(big.Rat)
		times.SetString(words[1])
		for name, m := range plain {
			factor := new(big.Rat).Mul(times, m.factor)
			if _, right := fitted(factor); right && !slices.Contains(strings.Fields(bareUnits), name) {
				all[words[0]+name] = meaning{factor, m.powers}
			}
		}
	}
	for name, m := range plain {
		all[name] = m
	}
	return all
}

func sortedNames() []string {
	var list []string
	for name := range wordMeaning {
		list = append(list, name)
	}
	slices.Sort(list)
	return list
}

func formOfUnits() *regexp.Regexp {
	word := `[A-Za-z]+(?:\^-?[1-9])?`
	words := word + `(?:\.` + word + `)*`
	return regexp.MustCompile(`\A(?:` + words + `(?:/` + words + `)?)\z`)
}

func (m meaning) right() bool {
	_, is := fitted(m.factor)
	return is && isDim(m.powers[:])
}

// stepped is the product of both, or of the first one and 1 divided by the second.
func (m meaning) stepped(by meaning, divided bool) meaning {
	factor, sign := new(big.Rat).Set(by.factor), int64(1)
	if divided {
		factor, sign = factor.Inv(factor), -1
	}
	next := meaning{factor: factor.Mul(factor, m.factor)}
	for i, power := range by.powers {
		next.powers[i] = m.powers[i] + sign*power
	}
	return next
}

// exactSteps has a step for each time that a word counts, whether it is right or not; false where the form isn't, or a
// word is none.
func exactSteps(s string) ([]meaning, bool) {
	steps := []meaning{{factor: big.NewRat(1, 1)}}
	if s == "1" {
		return steps, true
	}
	if !unitForm.MatchString(s) {
		return nil, false
	}
	for half, words := range strings.Split(s, "/") {
		for text := range strings.SplitSeq(words, ".") {
			name, power, _ := strings.Cut(text, "^")
			digit, below := strings.CutPrefix(power, "-")
			word, is := wordMeaning[name]
			if !is {
				return nil, false
			}
			for range max(1, strings.Index("0123456789", digit)) {
				steps = append(steps, steps[len(steps)-1].stepped(word, below != (half == 1)))
			}
		}
	}
	return steps, true
}

// exactUnit is told where each of the steps is right.
func exactUnit(s string) (meaning, bool) {
	steps, is := exactSteps(s)
	for _, step := range steps {
		is = is && step.right()
	}
	if !is {
		return meaning{}, false
	}
	return steps[len(steps)-1], true
}

// exactConverted goes by the four steps (without a zero by two), each of which must be right.
func exactConverted(v ratio, from string, to string) (ratio, bool) {
	a, aIs := exactUnit(from)
	b, bIs := exactUnit(to)
	q, right := exact(v)
	if !aIs || !bIs || !right || a.powers != b.powers {
		return zero, false
	}
	step := func(next *big.Rat) {
		_, fits := fitted(next)
		q, right = next, right && fits
	}
	if from == "C" {
		step(new(big.Rat).Add(q, big.NewRat(27315, 100)))
	}
	step(new(big.Rat).Mul(q, a.factor))
	step(new(big.Rat).Quo(q, b.factor))
	if to == "C" {
		step(new(big.Rat).Sub(q, big.NewRat(27315, 100)))
	}
	if !right {
		return zero, false
	}
	return fitted(q)
}

func checkMeaning(t *testing.T, name string, s string, factor ratio, d []int64, is bool, want meaning, wantIs bool) {
	t.Helper()
	wantFactor, wantDim := zero, []int64(nil)
	if wantIs {
		wantFactor, _ = fitted(want.factor)
		wantDim = want.powers[:]
	}
	if is != wantIs || factor != wantFactor || !slices.Equal(d, wantDim) {
		t.Fatalf("%s(%q): %v %v %v, not %v %v %v", name, s, factor, d, is, wantFactor, wantDim, wantIs)
	}
}

func checkWord(t *testing.T, s string) bool {
	t.Helper()
	factor, d, is := impl.Word(s)
	want, wantIs := wordMeaning[s]
	checkMeaning(t, "Word", s, factor, d, is, want, wantIs)
	if both := impl.Both(s); both != (s == "min") {
		t.Fatalf("Both(%q): %v", s, both)
	}
	return is
}

func checkUnit(t *testing.T, s string) bool {
	t.Helper()
	factor, d, is := impl.UnitOf(s)
	want, wantIs := exactUnit(s)
	checkMeaning(t, "UnitOf", s, factor, d, is, want, wantIs)
	if got := impl.Dims(s); !slices.Equal(got, d) {
		t.Fatalf("Dims(%q): %v, not %v", s, got, d)
	}
	return is
}

func checkConverted(t *testing.T, v ratio, from string, to string) bool {
	t.Helper()
	want, wantIs := exactConverted(v, from, to)
	got, is := impl.Converted(v, from, to)
	if got != want || is != wantIs {
		t.Fatalf("Converted(%v, %q, %q): %v %v, not %v %v", v, from, to, got, is, want, wantIs)
	}
	return is
}

// everyText has all texts of at most so many of these signs.
func everyText(signs string, most int, tell func(string)) {
	var grow func(text []byte)
	grow = func(text []byte) {
		tell(string(text))
		for i := 0; i < len(signs) && len(text) < most; i++ {
			grow(append(text, signs[i]))
		}
	}
	grow(make([]byte, 0, most))
}

// chanceUnits are by chance (of a fixed seed): unit texts of few words, most of them right by their form.
func chanceUnits(seed int64, times int, tell func(string)) {
	chance := rand.New(rand.NewSource(seed))
	for range times {
		text := ""
		for n := chance.Intn(6); n >= 0; n-- {
			text += wordNames[chance.Intn(len(wordNames))]
			if chance.Intn(2) == 0 {
				text += "^" + []string{"", "-"}[chance.Intn(2)] + "1112233456789"[chance.Intn(13):][:1]
			}
			if n > 0 {
				text += "..../"[chance.Intn(5):][:1]
			}
		}
		tell(text)
	}
}

// oneByteOff has each text in which one byte is left out, is another one, or is put in.
func oneByteOff(text string, bytes string, tell func(string)) {
	for i := range len(text) + 1 {
		for k := range len(bytes) {
			tell(text[:i] + bytes[k:k+1] + text[i:])
			if i < len(text) {
				tell(text[:i] + bytes[k:k+1] + text[i+1:])
			}
		}
		if i < len(text) {
			tell(text[:i] + text[i+1:])
		}
	}
}

func everyByte() string {
	var bytes []byte
	for b := range 256 {
		bytes = append(bytes, byte(b))
	}
	return string(bytes)
}
