package tests

import (
	"fmt"
	"runtime"
	"testing"
	"time"

	"loop.example/g01234/impl"
)

func TestWordsOf(t *testing.T) {
	all := pairsByHandUpTo(8)
	for x, want := range map[impl.Angle][]string{
		angle(1, 3): {"01", "10"}, angle(2, 3): {"01", "10"}, angle(1, 7): {"001", "010"}, angle(2, 7): {"001", "010"}, angle(3, 7): {"011", "100"}, angle(6, 7): {"101", "110"},
		// The lower word does not always end with a 1.
		angle(1, 5): {"0011", "0100"}, angle(4, 15): {"0011", "0100"}, angle(2, 5): {"0110", "1001"}, angle(3, 5): {"0110", "1001"}, angle(13, 31): {"01101", "10010"}, angle(17, 63): {"001010", "010001"},
		angle(1, 127): {"0000001", "0000010"}, angle(1, 255): {"00000001", "00000010"}, angle(2, 255): {"00000001", "00000010"}, angle(127, 255): {"01111111", "10000000"}, angle(10, 17): {"01101001", "10010110"}, angle(254, 255): {"11111101", "11111110"},
	} {
		got, code := impl.WordsOf(x)
		checkTexts(t, fmt.Sprintf("WordsOf(%v)", x), got, code, want, impl.ErrNone)
		checkTexts(t, fmt.Sprintf("words by hand of %v", x), wordsByHand(pairOfAngle(t, x, all)), impl.ErrNone, want, impl.ErrNone)
	}
	for _, pair := range all {
		for _, x := range bothAngles(pair) {
			got, code := impl.WordsOf(x)
			checkTexts(t, fmt.Sprintf("WordsOf(%v)", x), got, code, wordsByHand(pair), impl.ErrNone)
		}
	}
}

func TestErrorsOfWordsOf(t *testing.T) {
	for _, x := range anglesInNoPair() {
		got, code := impl.WordsOf(x)
		checkTexts(t, fmt.Sprintf("WordsOf(%v)", x), got, code, nil, impl.ErrRange)
	}
	for _, bad := range notAngles() {
		got, code := impl.WordsOf(bad)
		checkTexts(t, fmt.Sprintf("WordsOf(%v)", bad), got, code, nil, impl.ErrInvalid)
	}
}

// knownTunings returns angles with what they are tuned to, written out.
func knownTunings() []tunable {
	third, seventh, airplane := rayPair(1, 3, 2, 3), rayPair(1, 7, 2, 7), rayPair(3, 7, 4, 7)
	return []tunable{
		// The expansion of 0 has one letter.
		{third, angle(0, 1), angle(1, 3)}, {seventh, angle(0, 1), angle(1, 7)}, {airplane, angle(0, 1), angle(3, 7)}, {rayPair(1, 255, 2, 255), angle(0, 1), angle(1, 255)}, {rayPair(127, 255, 128, 255), angle(0, 1), angle(127, 255)}, {rayPair(253, 255, 254, 255), angle(0, 1), angle(253, 255)},
		// Angles without a preperiod: 01 is tuned to 0110, 001010 and 011100, and 001 to 010110.
		{third, angle(1, 3), angle(2, 5)}, {third, angle(2, 3), angle(3, 5)}, {seventh, angle(1, 3), angle(10, 63)}, {seventh, angle(2, 3), angle(17, 63)}, {airplane, angle(1, 3), angle(4, 9)}, {third, angle(1, 7), angle(22, 63)}, {third, angle(3, 7), angle(26, 63)},
		// Angles with a preperiod: 1(0), 01(0), 11(0) and 0(01).
		{third, angle(1, 2), angle(7, 12)}, {third, angle(1, 4), angle(19, 48)}, {third, angle(3, 4), angle(31, 48)}, {third, angle(1, 6), angle(7, 20)}, {airplane, angle(1, 2), angle(31, 56)}, {seventh, angle(1, 2), angle(15, 56)},
		// Great periods.
		{rayPair(13, 31, 18, 31), angle(1, 2), angle(571, 992)}, {rayPair(31, 63, 32, 63), angle(4, 5), angle(2081, 4097)}, {rayPair(61, 127, 66, 127), angle(1, 5), angle(1574, 3277)}, {rayPair(7, 17, 10, 17), angle(1, 3), angle(106, 257)}, {rayPair(7, 17, 10, 17), angle(1, 2), angle(2557, 4352)},
		// The greatest Dens that arise.
		{third, angle(62, 127), angle(2275, 5461)}, {rayPair(62, 127, 65, 127), angle(5, 6), angle(2817, 5504)}, {rayPair(13, 31, 18, 31), angle(1, 10), angle(2751, 6560)}, {rayPair(13, 31, 18, 31), angle(9, 10), angle(3809, 6560)},
	}
}

// checkTuning checks what an angle is tuned to by a ray pair, which is asked by both its angles.
func checkTuning(t *testing.T, pair impl.RayPair, x impl.Angle, want impl.Angle, wantCode int64) {
	t.Helper()
	for _, end := range bothAngles(pair) {
		got, code := impl.TuneAngle(end, x)
		checkAngle(t, fmt.Sprintf("TuneAngle(%v, %v)", end, x), got, code, want, wantCode)
	}
}

func TestTuneAngle(t *testing.T) {
	for _, c := range knownTunings() {
		checkTuning(t, c.pair, c.x, c.tuned, impl.ErrNone)
		byHand, code := tunedByHand(c.pair, c.x)
		checkAngle(t, fmt.Sprintf("by hand: %v tuned by %v", c.x, c.pair), byHand, code, c.tuned, impl.ErrNone)
	}
}

// TestAllTunedAngles tries all angles that can be tuned, with all ray pairs. No Den is greater than 6560:
// the next greater one that would arise is 9709.
func TestAllTunedAngles(t *testing.T) {
	all := tunables()
	most := int64(0)
	for _, c := range all {
		checkTuning(t, c.pair, c.x, c.tuned, impl.ErrNone)
		most = max(most, c.tuned.Den)
	}
	if len(all) != 1575 || most != 6560 {
		t.Errorf("%d angles can be tuned, to a Den of at most %d", len(all), most)
	}
}

// tooLargeTunings returns angles that cannot be tuned by a ray pair, each for a reason of its own.
func tooLargeTunings() []tunable {
	third, last := rayPair(1, 3, 2, 3), rayPair(1, 255, 2, 255)
	return []tunable{
		// The Den would be 9709, 10923, 65280 and 16383.
		{pair: third, x: angle(38, 511)}, {pair: third, x: angle(492, 511)}, {pair: rayPair(3, 7, 4, 7), x: angle(1, 11)}, {pair: rayPair(14, 31, 17, 31), x: angle(1, 9)}, {pair: last, x: angle(1, 2)}, {pair: third, x: angle(1, 127)},
		// Words of together 63, 64, 66 and 72 letters.
		{pair: rayPair(1, 127, 2, 127), x: angle(1, 511)}, {pair: third, x: angle(1, 464)}, {pair: last, x: angle(1, 255)}, {pair: last, x: angle(1, 128)}, {pair: rayPair(1, 5, 4, 15), x: angle(1, 257)}, {pair: third, x: angle(1, 928)}, {pair: last, x: angle(1, 511)}, {pair: last, x: angle(1, 256)},
		// Den that is MaxDen, or near to it.
		{pair: third, x: angle(1, 8191)}, {pair: third, x: angle(8190, 8191)}, {pair: third, x: angle(1, 4096)}, {pair: last, x: angle(1, 8190)},
	}
}

func TestTuningsThatAreTooLarge(t *testing.T) {
	for _, c := range tooLargeTunings() {
		checkTuning(t, c.pair, c.x, angle(0, 0), impl.ErrLimit)
		byHand, code := tunedByHand(c.pair, c.x)
		checkAngle(t, fmt.Sprintf("by hand: %v tuned by %v", c.x, c.pair), byHand, code, angle(0, 0), impl.ErrLimit)
	}
	full, more := longAngles()
	for _, pair := range []impl.RayPair{rayPair(1, 3, 2, 3), rayPair(3, 7, 4, 7), rayPair(13, 31, 18, 31), rayPair(7, 17, 10, 17)} {
		for _, x := range append(full, more...) {
			checkTuning(t, pair, x, angle(0, 0), impl.ErrLimit)
		}
	}
}

// TestTuneAngleByHand holds what angles are tuned to, or that they cannot be tuned, against what is found
// without the program: more angles for pairs of small periods.
func TestTuneAngleByHand(t *testing.T) {
	codes := map[int64]int{}
	for n, pairs := range pairsByHand() {
		for _, x := range anglesUpTo([]int64{0, 0, 140, 80, 40, 20, 12, 7, 5}[n]) {
			for _, pair := range pairs {
				want, wantCode := tunedByHand(pair, x)
				got, code := impl.TuneAngle(pair.Upper, x)
				checkAngle(t, fmt.Sprintf("TuneAngle(%v, %v)", pair.Upper, x), got, code, want, wantCode)
				codes[code]++
			}
		}
	}
	if codes[impl.ErrNone] < 1500 || codes[impl.ErrLimit] < 10000 {
		t.Errorf("so many codes: %v", codes)
	}
}

// knownTakenBack returns angles that are renormalizable but arise from no angle by tuning, with what
// arises if their tuning is taken back: all words from some place on are upper ones.
func knownTakenBack() []tunable {
	third, seventh, airplane := rayPair(1, 3, 2, 3), rayPair(1, 7, 2, 7), rayPair(3, 7, 4, 7)
	return []tunable{
		// All words are upper ones, which makes a whole turn.
		{third, angle(0, 1), angle(2, 3)}, {seventh, angle(0, 1), angle(2, 7)}, {airplane, angle(0, 1), angle(4, 7)}, {rayPair(1, 255, 2, 255), angle(0, 1), angle(2, 255)}, {rayPair(127, 255, 128, 255), angle(0, 1), angle(128, 255)},
		// 0(1), 00(1), 10(1).
		{third, angle(1, 2), angle(5, 12)}, {third, angle(1, 4), angle(17, 48)}, {third, angle(3, 4), angle(29, 48)}, {seventh, angle(1, 2), angle(9, 56)}, {airplane, angle(1, 2), angle(25, 56)},
	}
}

// checkTakenBack checks what arises if the tuning of an angle by a ray pair is taken back, and whether it
// is renormalizable. The pair is asked by one of its angles.
func checkTakenBack(t *testing.T, end impl.Angle, y impl.Angle, want impl.Angle, wantCode int64) {
	t.Helper()
	got, code := impl.UntuneAngle(end, y)
	checkAngle(t, fmt.Sprintf("UntuneAngle(%v, %v)", end, y), got, code, want, wantCode)
	is, code := impl.IsRenormalizable(end, y)
	if wantCode == impl.ErrNone || wantCode == impl.ErrState {
		checkAnswer(t, fmt.Sprintf("IsRenormalizable(%v, %v)", end, y), is, code, wantCode == impl.ErrNone, impl.ErrNone)
	} else {
		checkAnswer(t, fmt.Sprintf("IsRenormalizable(%v, %v)", end, y), is, code, false, wantCode)
	}
}

func TestUntuneAngle(t *testing.T) {
	for _, c := range append(knownTunings(), knownTakenBack()...) {
		for _, end := range bothAngles(c.pair) {
			checkTakenBack(t, end, c.tuned, c.x, impl.ErrNone)
		}
		byHand, code := takenBackByHand(c.pair, c.tuned)
		checkAngle(t, fmt.Sprintf("by hand: %v taken back by %v", c.tuned, c.pair), byHand, code, c.x, impl.ErrNone)
	}
	// What has only upper words in the end is not what its taking back is tuned to.
	for _, c := range knownTakenBack() {
		if got, code := impl.TuneAngle(c.pair.Lower, c.x); got == c.tuned || code != impl.ErrNone && code != impl.ErrLimit {
			t.Errorf("TuneAngle(%v, %v) = %v, %d", c.pair.Lower, c.x, got, code)
		}
	}
}

// notRenormalizable returns angles, told by their expansions, with ray pairs by which they are not
// renormalizable, each for a reason of its own.
func notRenormalizable() []tunable {
	third, seventh, airplane := rayPair(1, 3, 2, 3), rayPair(1, 7, 2, 7), rayPair(3, 7, 4, 7)
	return []tunable{
		// The first word is another one.
		{pair: third, tuned: withDigits("", "0")}, {pair: third, tuned: withDigits("", "001")}, {pair: third, tuned: withDigits("11", "01")}, {pair: seventh, tuned: withDigits("", "100")}, {pair: seventh, tuned: withDigits("1", "0")}, {pair: seventh, tuned: withDigits("", "01")}, {pair: rayPair(1, 255, 2, 255), tuned: withDigits("", "0")},
		// The expansion begins with words, and then has others, in its Pre or in its Per, at the end of it or not.
		{pair: third, tuned: withDigits("", "0111")}, {pair: third, tuned: withDigits("", "100111")}, {pair: third, tuned: withDigits("", "01011100")}, {pair: third, tuned: withDigits("01", "0")}, {pair: third, tuned: withDigits("0100", "10")}, {pair: third, tuned: withDigits("01", "1000")}, {pair: third, tuned: withDigits("0110101001", "1")},
		{pair: airplane, tuned: withDigits("", "011011000")}, {pair: airplane, tuned: withDigits("011100", "101")}, {pair: seventh, tuned: withDigits("001010100", "001")}, {pair: rayPair(1, 31, 2, 31), tuned: withDigits("00001", "00011")}, {pair: rayPair(1, 255, 2, 255), tuned: withDigits("00000001", "0")},
		// Words do not end where Per does: all those that fit into it are right.
		{pair: third, tuned: withDigits("", "101")}, {pair: third, tuned: withDigits("", "011")}, {pair: third, tuned: withDigits("", "01101")}, {pair: third, tuned: withDigits("", "10010")}, {pair: third, tuned: withDigits("01", "01101")}, {pair: seventh, tuned: withDigits("", "0010100")}, {pair: seventh, tuned: withDigits("", "01000101")}, {pair: airplane, tuned: withDigits("", "0111")},
		// Words do not end where Pre does.
		{pair: third, tuned: withDigits("0", "101")}, {pair: third, tuned: withDigits("1", "0010")}, {pair: third, tuned: withDigits("011", "0")}, {pair: third, tuned: withDigits("101", "0110")}, {pair: third, tuned: withDigits("1", "10")}, {pair: seventh, tuned: withDigits("0", "0101")}, {pair: seventh, tuned: withDigits("00", "101")}, {pair: airplane, tuned: withDigits("1", "011")},
	}
}

func TestAnglesThatAreNotRenormalizable(t *testing.T) {
	for _, c := range notRenormalizable() {
		for _, end := range bothAngles(c.pair) {
			checkTakenBack(t, end, c.tuned, angle(0, 0), impl.ErrState)
		}
		byHand, code := takenBackByHand(c.pair, c.tuned)
		checkAngle(t, fmt.Sprintf("by hand: %v taken back by %v", c.tuned, c.pair), byHand, code, angle(0, 0), impl.ErrState)
	}
}

// TestTakenBackFromLongOrbits asks for angles with orbits of MaxOrbit angles, and of more: that these are
// too long comes ahead of other words. The first words of some are right.
func TestTakenBackFromLongOrbits(t *testing.T) {
	full, more := longAngles()
	for _, end := range []impl.Angle{angle(1, 3), angle(2, 3), angle(3, 7), angle(2, 5), angle(1, 31), angle(7, 17), angle(254, 255)} {
		for _, y := range full {
			checkTakenBack(t, end, y, angle(0, 0), impl.ErrState)
		}
		for _, y := range more {
			checkTakenBack(t, end, y, angle(0, 0), impl.ErrLimit)
		}
	}
}

// TestTakenBackByHand holds what is taken back from many angles, by ray pairs of all periods, against what
// is found without the program: more angles for pairs of small periods.
func TestTakenBackByHand(t *testing.T) {
	codes := map[int64]int{}
	for n, pairs := range pairsByHand() {
		for _, y := range anglesUpTo([]int64{0, 0, 260, 160, 70, 33, 12, 6, 4}[n]) {
			for _, pair := range pairs {
				want, wantCode := takenBackByHand(pair, y)
				checkTakenBack(t, pair.Upper, y, want, wantCode)
				codes[wantCode]++
			}
		}
	}
	if codes[impl.ErrNone] < 150 || codes[impl.ErrState] < 10000 || codes[impl.ErrLimit] < 10000 {
		t.Errorf("so many codes: %v", codes)
	}
}

// checkNoTuning checks that all functions that tune an angle, or take it back, return a code.
func checkNoTuning(t *testing.T, x, y impl.Angle, want int64) {
	t.Helper()
	tuned, code := impl.TuneAngle(x, y)
	checkAngle(t, fmt.Sprintf("TuneAngle(%v, %v)", x, y), tuned, code, angle(0, 0), want)
	checkTakenBack(t, x, y, angle(0, 0), want)
}

// checkNoPair checks that all functions that tune a ray pair return a code.
func checkNoPair(t *testing.T, x, y impl.Angle, want int64) {
	t.Helper()
	pair, code := impl.TunePair(x, y)
	checkPair(t, fmt.Sprintf("TunePair(%v, %v)", x, y), pair, code, impl.RayPair{}, want)
	words, code := impl.TunedWords(x, y)
	checkTexts(t, fmt.Sprintf("TunedWords(%v, %v)", x, y), words, code, nil, want)
}

// TestAnglesWithoutAPair asks for tuning by angles that are in no ray pair: that comes ahead of orbits that
// are too long, and of other words.
func TestAnglesWithoutAPair(t *testing.T) {
	full, more := longAngles()
	seconds := append(append(full, more...), angle(0, 1), angle(1, 3), angle(1, 7), angle(1, 511), angle(8190, 8191))
	for _, x := range anglesInNoPair() {
		for _, y := range append(seconds, x) {
			checkNoTuning(t, x, y, impl.ErrRange)
			checkNoPair(t, x, y, impl.ErrRange)
		}
		// A ray pair that is tuned is asked for, too.
		for _, end := range []impl.Angle{angle(1, 3), angle(6, 7), angle(2, 15)} {
			checkNoPair(t, end, x, impl.ErrRange)
		}
	}
}

// TestWhatIsNoAngleIsNotTuned asks for things that are not angles, as the first argument and as the second
// one, beside angles that are refused for other reasons.
func TestWhatIsNoAngleIsNotTuned(t *testing.T) {
	full, more := longAngles()
	others := append(append(full, more...), angle(0, 1), angle(1, 2), angle(1, 3), angle(2, 7), angle(1, 255), angle(1, 511), angle(8190, 8191))
	for _, bad := range notAngles() {
		for _, x := range append(others, bad) {
			for _, both := range [][2]impl.Angle{{bad, x}, {x, bad}} {
				checkNoTuning(t, both[0], both[1], impl.ErrInvalid)
				checkNoPair(t, both[0], both[1], impl.ErrInvalid)
			}
		}
	}
}

// TestNoSenderIsLeft asks for results of all kinds, also where the first word is another one: no goroutine
// may be left that waits for its letters to be taken.
func TestNoSenderIsLeft(t *testing.T) {
	before := runtime.NumGoroutine()
	for range 20 {
		impl.TuneAngle(angle(1, 3), angle(1, 6))
		impl.TuneAngle(angle(1, 3), angle(1, 641))
		impl.UntuneAngle(angle(1, 3), angle(2, 5))
		impl.UntuneAngle(angle(1, 3), angle(1, 7))
		impl.IsRenormalizable(angle(1, 7), angle(1, 641))
		impl.TunePair(angle(1, 7), angle(3, 31))
		impl.TunedWords(angle(1, 7), angle(3, 31))
		impl.RenormalizationsOf(angle(7, 12), 5)
		impl.IsSimpleAngle(angle(13, 31))
	}
	// A sender may need a moment to end behind its last letter.
	for range 1000 {
		if runtime.NumGoroutine() <= before {
			return
		}
		time.Sleep(time.Millisecond)
	}
	t.Errorf("%d goroutines are left of %d", runtime.NumGoroutine(), before)
}
