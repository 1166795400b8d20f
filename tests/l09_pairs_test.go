package tests

import (
	"fmt"
	"math"
	"slices"
	"strings"
	"testing"

	"loop.example/g01234/impl"
)

// tunedPair is a ray pair with one by which it is tuned, and what arises.
type tunedPair struct {
	pair, own, tuned impl.RayPair
	words            []string
}

// knownTunedPairs returns ray pairs with what they are tuned to, written out.
func knownTunedPairs() []tunedPair {
	third, seventh, airplane, fifth, far := rayPair(1, 3, 2, 3), rayPair(1, 7, 2, 7), rayPair(3, 7, 4, 7), rayPair(2, 5, 3, 5), rayPair(13, 31, 18, 31)
	return []tunedPair{
		{third, third, rayPair(2, 5, 3, 5), []string{"0110", "1001"}}, {third, seventh, rayPair(22, 63, 25, 63), []string{"010110", "011001"}}, {seventh, third, rayPair(10, 63, 17, 63), []string{"001010", "010001"}},
		{third, airplane, rayPair(26, 63, 37, 63), []string{"011010", "100101"}}, {airplane, third, rayPair(4, 9, 5, 9), []string{"011100", "100011"}}, {fifth, third, rayPair(7, 17, 10, 17), []string{"01101001", "10010110"}}, {third, fifth, rayPair(7, 17, 10, 17), []string{"01101001", "10010110"}},
		{rayPair(1, 15, 2, 15), third, rayPair(6, 85, 11, 85), []string{"00010010", "00100001"}}, {third, rayPair(7, 15, 8, 15), rayPair(106, 255, 149, 255), []string{"01101010", "10010101"}},
		// Periods that are greater than MaxPeriod: 9, 10, 12, 14 and 16.
		{seventh, seventh, rayPair(74, 511, 81, 511), []string{"001001010", "001010001"}}, {airplane, airplane, rayPair(228, 511, 283, 511), []string{"011100100", "100011011"}}, {third, far, rayPair(422, 1023, 601, 1023), []string{"0110100110", "1001011001"}}, {far, third, rayPair(14, 33, 19, 33), []string{"0110110010", "1001001101"}},
		{third, rayPair(26, 63, 37, 63), rayPair(563, 1365, 802, 1365), []string{"011010011001", "100101100110"}}, {rayPair(62, 127, 65, 127), third, rayPair(21, 43, 22, 43), []string{"01111101000001", "10000010111110"}}, {rayPair(7, 17, 10, 17), third, rayPair(106, 257, 151, 257), []string{"0110100110010110", "1001011001101001"}},
	}
}

// checkTunedPair checks what a ray pair is tuned to by another one, and its words.
func checkTunedPair(t *testing.T, x, y impl.Angle, want impl.RayPair, wantCode int64, wantWords []string) {
	t.Helper()
	pair, code := impl.TunePair(x, y)
	checkPair(t, fmt.Sprintf("TunePair(%v, %v)", x, y), pair, code, want, wantCode)
	words, code := impl.TunedWords(x, y)
	checkTexts(t, fmt.Sprintf("TunedWords(%v, %v)", x, y), words, code, wantWords, impl.ErrNone)
}

func TestTunePairAndTunedWords(t *testing.T) {
	for _, c := range knownTunedPairs() {
		for _, x := range bothAngles(c.pair) {
			for _, y := range bothAngles(c.own) {
				checkTunedPair(t, x, y, c.tuned, impl.ErrNone, c.words)
			}
		}
	}
}

// TestTunedPairsThatAreTooLarge tunes ray pairs whose lower angle, upper angle, or both angles would have
// too great a Den: their words are told all the same.
func TestTunedPairsThatAreTooLarge(t *testing.T) {
	third, last := rayPair(1, 3, 2, 3), rayPair(1, 255, 2, 255)
	tooLarge := map[string]int{}
	for _, both := range [][2]impl.RayPair{
		// The upper angle alone.
		{third, rayPair(3, 127, 4, 127)}, {third, rayPair(31, 127, 32, 127)}, {rayPair(1, 7, 2, 7), rayPair(3, 31, 4, 31)}, {rayPair(3, 7, 4, 7), rayPair(1, 17, 16, 255)}, {rayPair(2, 5, 3, 5), rayPair(1, 5, 4, 15)},
		// The lower angle alone.
		{third, rayPair(11, 127, 12, 127)}, {third, rayPair(95, 127, 96, 127)}, {rayPair(1, 7, 2, 7), rayPair(13, 31, 18, 31)}, {rayPair(3, 7, 4, 7), rayPair(29, 255, 2, 17)}, {rayPair(2, 5, 3, 5), rayPair(11, 15, 4, 5)},
		// Both angles: with words of 14, 16, 32, 56 and 64 letters.
		{third, rayPair(1, 127, 2, 127)}, {last, third}, {rayPair(1, 15, 2, 15), last}, {last, rayPair(63, 127, 64, 127)}, {rayPair(1, 127, 2, 127), last}, {last, last}, {rayPair(127, 255, 128, 255), rayPair(7, 17, 10, 17)},
	} {
		_, lowerCode := tunedByHand(both[0], both[1].Lower)
		_, upperCode := tunedByHand(both[0], both[1].Upper)
		tooLarge[fmt.Sprint(lowerCode, upperCode)]++
		checkTunedPair(t, both[0].Lower, both[1].Upper, impl.RayPair{}, impl.ErrLimit, tunedWordsByHand(both[0], both[1]))
	}
	if fmt.Sprint(tooLarge) != "map[0 3:5 3 0:5 3 3:7]" {
		t.Errorf("so many codes of the lower and of the upper angle: %v", tooLarge)
	}
}

// TestTunedWordsOfMaxOrbitLetters writes words of MaxOrbit letters each out. More there are not: MaxPeriod
// letters have words of MaxPeriod letters.
func TestTunedWordsOfMaxOrbitLetters(t *testing.T) {
	a, b := "00000001", "00000010"
	c, d := "01111111", "10000000"
	for _, w := range []struct {
		x, y impl.Angle
		want []string
	}{
		{angle(1, 255), angle(2, 255), []string{strings.Repeat(a, 7) + b, strings.Repeat(a, 6) + b + a}}, {angle(128, 255), angle(1, 255), []string{strings.Repeat(c, 7) + d, strings.Repeat(c, 6) + d + c}}, {angle(2, 255), angle(127, 255), []string{a + strings.Repeat(b, 7), b + strings.Repeat(a, 7)}},
	} {
		got, code := impl.TunedWords(w.x, w.y)
		checkTexts(t, fmt.Sprintf("TunedWords(%v, %v)", w.x, w.y), got, code, w.want, impl.ErrNone)
		if len(w.want[0]) != 64 || len(w.want[1]) != 64 {
			t.Errorf("wrong sample %q", w.want)
		}
	}
}

// TestTunedPairsByHand holds tuned ray pairs and tuned words, for pairs of all periods, against those found
// without the program. The lower angle is always led to the lesser one.
func TestTunedPairsByHand(t *testing.T) {
	codes := map[int64]int{}
	lists := pairsByHand()
	for n, pairs := range lists {
		for m := 2; m+n <= 10; m++ {
			for i, pair := range pairs {
				for j, own := range lists[m] {
					want, wantCode := impl.RayPair{}, int64(impl.ErrLimit)
					lower, lowerCode := tunedByHand(pair, own.Lower)
					upper, upperCode := tunedByHand(pair, own.Upper)
					if lowerCode == impl.ErrNone && upperCode == impl.ErrNone {
						want, wantCode = impl.RayPair{Lower: lower, Upper: upper}, impl.ErrNone
						if orderByHand(lower, upper) >= 0 {
							t.Errorf("%v tuned by %v changes its order", own, pair)
						}
					}
					checkTunedPair(t, bothAngles(pair)[i%2], bothAngles(own)[j%2], want, wantCode, tunedWordsByHand(pair, own))
					codes[wantCode]++
				}
			}
		}
	}
	if codes[impl.ErrNone] < 200 || codes[impl.ErrLimit] < 1000 {
		t.Errorf("so many codes: %v", codes)
	}
}

func TestRenormalizationsOf(t *testing.T) {
	third, fifth, cascade := rayPair(1, 3, 2, 3), rayPair(2, 5, 3, 5), rayPair(7, 17, 10, 17)
	for _, c := range []struct {
		y    impl.Angle
		n    int64
		want []impl.RayPair
	}{
		{angle(2, 5), 2, []impl.RayPair{third}}, {angle(2, 5), 3, []impl.RayPair{third}}, {angle(2, 5), 4, []impl.RayPair{third, fifth}}, {angle(2, 5), 8, []impl.RayPair{third, fifth}}, {angle(3, 5), 4, []impl.RayPair{third, fifth}},
		// By several pairs, with a preperiod, too.
		{angle(7, 17), 2, []impl.RayPair{third}}, {angle(7, 17), 7, []impl.RayPair{third, fifth}}, {angle(7, 17), 8, []impl.RayPair{third, fifth, cascade}}, {angle(10, 17), 8, []impl.RayPair{third, fifth, cascade}}, {angle(106, 257), 8, []impl.RayPair{third, fifth, cascade}}, {withDigits("01101001", "1001"), 8, []impl.RayPair{third, fifth}},
		{angle(22, 63), 6, []impl.RayPair{third, rayPair(22, 63, 25, 63)}}, {angle(17, 63), 8, []impl.RayPair{rayPair(1, 7, 2, 7), rayPair(10, 63, 17, 63)}}, {angle(4, 9), 3, []impl.RayPair{rayPair(3, 7, 4, 7)}}, {angle(4, 9), 8, []impl.RayPair{rayPair(3, 7, 4, 7), rayPair(4, 9, 5, 9)}},
		// By its own pair, whether it is the lower angle or the upper one, or by that of another angle of the orbit.
		{angle(1, 3), 2, []impl.RayPair{third}}, {angle(2, 3), 8, []impl.RayPair{third}}, {angle(1, 255), 8, []impl.RayPair{rayPair(1, 255, 2, 255)}}, {angle(2, 255), 8, []impl.RayPair{rayPair(1, 255, 2, 255)}}, {angle(1, 255), 7, nil}, {angle(7, 12), 8, []impl.RayPair{third}}, {angle(31, 56), 3, []impl.RayPair{rayPair(3, 7, 4, 7)}}, {angle(31, 56), 2, nil},
		// By none.
		{angle(0, 1), 2, nil}, {angle(0, 1), 8, nil}, {angle(1, 2), 8, nil}, {angle(1, 4), 8, nil}, {angle(1, 6), 8, nil}, {angle(1, 511), 8, nil}, {angle(1, 8191), 8, nil}, {angle(1, 641), 8, nil}, {angle(213, 641), 8, nil}, {angle(8190, 8191), 2, nil},
	} {
		got, code := impl.RenormalizationsOf(c.y, c.n)
		checkPairs(t, fmt.Sprintf("RenormalizationsOf(%v, %d)", c.y, c.n), got, code, c.want, impl.ErrNone)
	}
}

// TestRenormalizationsByHand holds the ray pairs by which angles are renormalizable against those found
// without the program.
func TestRenormalizationsByHand(t *testing.T) {
	angles := anglesUpTo(33)
	for i, c := range tunables() {
		if i%4 == 0 {
			angles = append(angles, c.tuned)
		}
	}
	sizes := map[int]int{}
	for i, y := range angles {
		n := []int64{8, 2, 8, 3, 6, 4, 8, 5, 7}[i%9]
		want := renormalizationsByHand(y, pairsByHandUpTo(n))
		got, code := impl.RenormalizationsOf(y, n)
		checkPairs(t, fmt.Sprintf("RenormalizationsOf(%v, %d)", y, n), got, code, want, impl.ErrNone)
		sizes[len(want)]++
	}
	if sizes[0] < 200 || sizes[1] < 200 || sizes[2] < 40 {
		t.Errorf("so many angles are renormalizable by so many pairs: %v", sizes)
	}
}

func TestErrorsOfRenormalizationsOf(t *testing.T) {
	full, more := longAngles()
	check := func(y impl.Angle, n int64, want int64) {
		got, code := impl.RenormalizationsOf(y, n)
		checkPairs(t, fmt.Sprintf("RenormalizationsOf(%v, %d)", y, n), got, code, nil, want)
	}
	for _, n := range notInRange(2) {
		// A number that is not in its range comes ahead of an orbit that is too long.
		for _, y := range slices.Concat(full, more, []impl.Angle{angle(0, 1), angle(1, 3), angle(2, 5), angle(7, 12), angle(8190, 8191)}) {
			check(y, n, impl.ErrRange)
		}
		for _, bad := range notAngles() {
			check(bad, n, impl.ErrInvalid)
		}
	}
	for n := int64(2); n <= 8; n++ {
		for _, y := range full {
			check(y, n, impl.ErrNone)
		}
		for _, y := range more {
			check(y, n, impl.ErrLimit)
		}
		for _, bad := range notAngles() {
			check(bad, n, impl.ErrInvalid)
		}
	}
}

func TestIsSimpleAngle(t *testing.T) {
	for y, want := range map[impl.Angle]bool{
		// There is no period less than 2.
		angle(1, 3): true, angle(2, 3): true,
		// The pair of an angle itself does not count, nor do those of the same period.
		angle(1, 7): true, angle(2, 7): true, angle(3, 7): true, angle(4, 7): true, angle(1, 15): true, angle(4, 15): true, angle(7, 15): true, angle(13, 31): true, angle(5, 21): true, angle(1, 127): true, angle(1, 255): true, angle(127, 255): true, angle(128, 255): true,
		angle(2, 5): false, angle(3, 5): false, angle(22, 63): false, angle(25, 63): false, angle(26, 63): false, angle(10, 63): false, angle(17, 63): false, angle(4, 9): false, angle(5, 9): false, angle(7, 17): false, angle(10, 17): false, angle(106, 255): false, angle(149, 255): false, angle(6, 85): false, angle(11, 85): false,
	} {
		got, code := impl.IsSimpleAngle(y)
		checkAnswer(t, fmt.Sprintf("IsSimpleAngle(%v)", y), got, code, want, impl.ErrNone)
	}
	// Those that are not simple are tuned: the pair of 1/3 by itself; the three pairs of the period 3 by it, and
	// it by each of these; the six pairs of the period 4 by it, and it by each of these, where the pair of 2/5
	// leads to the same one both ways.
	counts := [9]int{}
	for n, pairs := range pairsByHand() {
		smaller := []impl.RayPair{}
		if n > 2 {
			smaller = pairsByHandUpTo(int64(n) - 1)
		}
		for _, pair := range pairs {
			for _, y := range bothAngles(pair) {
				want := len(renormalizationsByHand(y, smaller)) == 0
				got, code := impl.IsSimpleAngle(y)
				checkAnswer(t, fmt.Sprintf("IsSimpleAngle(%v)", y), got, code, want, impl.ErrNone)
				if !got {
					counts[n]++
				}
			}
		}
	}
	if counts != [9]int{4: 2, 6: 12, 8: 22} {
		t.Errorf("so many angles of each period are not simple: %v", counts)
	}
}

func TestErrorsOfIsSimpleAngle(t *testing.T) {
	full, more := longAngles()
	for _, y := range slices.Concat(anglesInNoPair(), full, more) {
		got, code := impl.IsSimpleAngle(y)
		checkAnswer(t, fmt.Sprintf("IsSimpleAngle(%v)", y), got, code, false, impl.ErrRange)
	}
	for _, bad := range append(notAngles(), angle(4, 10), angle(7, 5), angle(-2, 5), angle(2, -5), angle(math.MinInt64, 3)) {
		got, code := impl.IsSimpleAngle(bad)
		checkAnswer(t, fmt.Sprintf("IsSimpleAngle(%v)", bad), got, code, false, impl.ErrInvalid)
	}
}

// TestResultsOfChapter9AreNew writes into results and into the room behind them, and asks again.
func TestResultsOfChapter9AreNew(t *testing.T) {
	for _, c := range knownTunedPairs() {
		words, _ := impl.WordsOf(c.own.Lower)
		overwrite(words, "11")
		words, code := impl.WordsOf(c.own.Lower)
		checkTexts(t, fmt.Sprintf("WordsOf(%v) again", c.own.Lower), words, code, wordsByHand(c.own), impl.ErrNone)
		tuned, _ := impl.TunedWords(c.pair.Lower, c.own.Lower)
		overwrite(tuned, "11")
		tuned, code = impl.TunedWords(c.pair.Lower, c.own.Lower)
		checkTexts(t, fmt.Sprintf("TunedWords(%v, %v) again", c.pair.Lower, c.own.Lower), tuned, code, tunedWordsByHand(c.pair, c.own), impl.ErrNone)
		pairs, _ := impl.RenormalizationsOf(c.tuned.Lower, 8)
		want := slices.Clone(pairs)
		overwrite(pairs, rayPair(5, 7, 1, 7))
		pairs, code = impl.RenormalizationsOf(c.tuned.Lower, 8)
		checkPairs(t, fmt.Sprintf("RenormalizationsOf(%v, 8) again", c.tuned.Lower), pairs, code, want, impl.ErrNone)
	}
}
