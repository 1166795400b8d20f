package tests

import (
	"math/big"
	"slices"
	"strconv"
	"strings"
	"testing"

	"loop.example/g01234/impl"
)

// handWords are the words of a ray pair, as the numbers that have their letters as binary digits.
type handWords struct {
	size, lower, upper int64
}

// handWordsOf returns the words of a ray pair: its angles are the numbers by 2^n - 1.
func handWordsOf(pair impl.RayPair) handWords {
	_, n := orbitByNumbers(pair.Lower.Num, pair.Lower.Den)
	whole := int64(1)<<n - 1
	return handWords{n, pair.Lower.Num * (whole / pair.Lower.Den), pair.Upper.Num * (whole / pair.Upper.Den)}
}

// texts returns both words with their letters.
func (w handWords) texts() []string {
	list := []string{}
	for _, number := range []int64{w.lower, w.upper} {
		digits := strconv.FormatInt(number, 2)
		list = append(list, strings.Repeat("0", int(w.size)-len(digits))+digits)
	}
	return list
}

// wordsByHand returns the words of a ray pair.
func wordsByHand(pair impl.RayPair) []string {
	return handWordsOf(pair).texts()
}

// powerOfTwo returns 2^n.
func powerOfTwo(n int64) *big.Int {
	return new(big.Int).Lsh(big.NewInt(1), uint(n))
}

// sumOfWords returns the part of a turn that is told by some numbers of n binary digits each, those from
// the one with an index on being told again and again: a sum of powers of 1/2, and of geometric series.
func sumOfWords(numbers []int64, again int, n int64) *big.Rat {
	turns := powerOfTwo(n * int64(len(numbers)-again))
	series := new(big.Rat).SetFrac(turns, new(big.Int).Sub(turns, big.NewInt(1)))
	sum := new(big.Rat)
	for k, number := range numbers {
		part := new(big.Rat).SetFrac(big.NewInt(number), powerOfTwo(n*int64(k+1)))
		if k >= again {
			part.Mul(part, series)
		}
		sum.Add(sum, part)
	}
	return sum
}

// angleByHand returns a part of a turn as an angle, or ErrLimit.
func angleByHand(part *big.Rat) (impl.Angle, int64) {
	if part.Denom().Cmp(big.NewInt(8191)) > 0 {
		return angle(0, 0), impl.ErrLimit
	}
	return reduced(part.Num().Int64(), part.Denom().Int64()), impl.ErrNone
}

// withDigits returns the angle with the digits pre, and then per again and again.
func withDigits(pre, per string) impl.Angle {
	numbers := []int64{}
	for _, digit := range pre + per {
		numbers = append(numbers, int64(digit-'0'))
	}
	x, _ := angleByHand(sumOfWords(numbers, len(pre), 1))
	return x
}

// tunedByHand returns an angle tuned by a ray pair.
func tunedByHand(pair impl.RayPair, x impl.Angle) (impl.Angle, int64) {
	w := handWordsOf(pair)
	preperiod, period := orbitByNumbers(x.Num, x.Den)
	if w.size*(preperiod+period) > 64 {
		return angle(0, 0), impl.ErrLimit
	}
	numbers := []int64{}
	rest := x.Num
	for range preperiod + period {
		if 2*rest < x.Den {
			numbers = append(numbers, w.lower)
		} else {
			numbers = append(numbers, w.upper)
		}
		rest = 2 * rest % x.Den
	}
	return angleByHand(sumOfWords(numbers, int(preperiod), w.size))
}

// takenBackByHand returns the angle that arises if the tuning of an angle by a ray pair is taken back,
// or ErrState, or ErrLimit. Words are cut off by multiplying with 2^n, until a rest comes again.
func takenBackByHand(pair impl.RayPair, y impl.Angle) (impl.Angle, int64) {
	if orbitSize(y) > 64 {
		return angle(0, 0), impl.ErrLimit
	}
	w := handWordsOf(pair)
	place, digits := map[int64]int{}, []int64{}
	rest := y.Num
	for {
		if first, met := place[rest]; met {
			return angleByHand(sumOfWords(digits, first, 1))
		}
		place[rest] = len(digits)
		number := rest << w.size / y.Den
		if number != w.lower && number != w.upper {
			return angle(0, 0), impl.ErrState
		}
		digits = append(digits, (number-w.lower)/(w.upper-w.lower))
		rest = rest << w.size % y.Den
	}
}

// renormalizationsByHand returns those of some ray pairs by which an angle is renormalizable.
func renormalizationsByHand(y impl.Angle, pairs []impl.RayPair) []impl.RayPair {
	return slices.DeleteFunc(slices.Clone(pairs), func(pair impl.RayPair) bool {
		_, code := takenBackByHand(pair, y)
		return code != impl.ErrNone
	})
}

// tunedWordsByHand returns the words of one ray pair, with those of another one in the places of their
// letters.
func tunedWordsByHand(pair, other impl.RayPair) []string {
	w := wordsByHand(pair)
	list := wordsByHand(other)
	for i := range list {
		list[i] = strings.NewReplacer("0", w[0], "1", w[1]).Replace(list[i])
	}
	return list
}

// bothAngles returns both angles of a ray pair.
func bothAngles(pair impl.RayPair) []impl.Angle {
	return []impl.Angle{pair.Lower, pair.Upper}
}

// pairOfAngle returns the one of some ray pairs that has an angle.
func pairOfAngle(t *testing.T, x impl.Angle, pairs []impl.RayPair) impl.RayPair {
	t.Helper()
	place := slices.IndexFunc(pairs, func(pair impl.RayPair) bool { return pair.Lower == x || pair.Upper == x })
	if place < 0 {
		t.Fatalf("%v is in no pair", x)
	}
	return pairs[place]
}

// longAngles returns angles with orbits of MaxOrbit angles and less, and with orbits of more.
func longAngles() ([]impl.Angle, []impl.Angle) {
	return []impl.Angle{angle(1, 641), angle(213, 641), angle(640, 641)}, []impl.Angle{angle(1, 131), angle(43, 131), angle(1, 1282), angle(1, 8179), angle(2726, 8179)}
}

// tunable is an angle that can be tuned by a ray pair.
type tunable struct {
	pair     impl.RayPair
	x, tuned impl.Angle
}

// tunables returns angles with all ray pairs by which they can be tuned: all that there are with a Den up
// to some number, which is smaller for pairs of great periods.
func tunables() []tunable {
	list := []tunable{}
	for n, pairs := range pairsByHand() {
		for _, x := range anglesUpTo([]int64{0, 0, 130, 70, 30, 16, 16, 9, 9}[n]) {
			for _, pair := range pairs {
				if tuned, code := tunedByHand(pair, x); code == impl.ErrNone {
					list = append(list, tunable{pair, x, tuned})
				}
			}
		}
	}
	return list
}

func checkTexts(t *testing.T, what string, got []string, code int64, want []string, wantCode int64) {
	t.Helper()
	if !slices.Equal(got, want) || code != wantCode {
		t.Errorf("%s: got %q, %d; want %q, %d", what, got, code, want, wantCode)
	}
}
