package tests

import (
	"fmt"
	"testing"

	"loop.example/g01234/impl"
)

// Promise 9: tuning that is taken back leaves the angle. Tuned angles are renormalizable. These are all
// angles that can be tuned, by all ray pairs, each asked by both its angles.
func TestTuningThatIsTakenBackLeavesTheAngle(t *testing.T) {
	taken := 0
	for _, c := range tunables() {
		for i, end := range bothAngles(c.pair) {
			tuned, code := impl.TuneAngle(end, c.x)
			if code != impl.ErrNone {
				t.Fatalf("TuneAngle(%v, %v): code %d", end, c.x, code)
			}
			other := bothAngles(c.pair)[1-i]
			back, code := impl.UntuneAngle(other, tuned)
			checkAngle(t, fmt.Sprintf("UntuneAngle(%v, %v)", other, tuned), back, code, c.x, impl.ErrNone)
			is, code := impl.IsRenormalizable(other, tuned)
			checkAnswer(t, fmt.Sprintf("IsRenormalizable(%v, %v)", other, tuned), is, code, true, impl.ErrNone)
			taken++
		}
	}
	if taken != 3150 {
		t.Errorf("%d tunings are taken back", taken)
	}
}

// The guarantee of chapter 9: the lower angle of a pair is 0 tuned by it. So is 0 what arises if the tuning
// of either angle is taken back.
func TestLowerAnglesAreTunedZeros(t *testing.T) {
	for _, pair := range allPairs(t) {
		for _, end := range bothAngles(pair) {
			tuned, code := impl.TuneAngle(end, angle(0, 1))
			checkAngle(t, fmt.Sprintf("TuneAngle(%v, 0)", end), tuned, code, pair.Lower, impl.ErrNone)
			back, code := impl.UntuneAngle(pair.Lower, end)
			checkAngle(t, fmt.Sprintf("UntuneAngle(%v, %v)", pair.Lower, end), back, code, angle(0, 1), impl.ErrNone)
		}
	}
}

// A tuned angle has an orbit that is as many times as long as the words are: no tuned sequence is told with
// a smaller Pre or Per than the words make.
func TestOrbitsOfTunedAngles(t *testing.T) {
	for _, c := range tunables() {
		tuned, _ := impl.TuneAngle(c.pair.Lower, c.x)
		periods, code := impl.PeriodsOf(tuned)
		preperiod, period := orbitByNumbers(c.x.Num, c.x.Den)
		n := handWordsOf(c.pair).size
		checkNumbers(t, fmt.Sprintf("PeriodsOf(%v)", tuned), periods, code, []int64{n * preperiod, n * period}, impl.ErrNone)
	}
}

// Tuning keeps the order of angles, since the lower word is the lesser one.
func TestTuningKeepsTheOrder(t *testing.T) {
	met := map[impl.RayPair][]tunable{}
	compared := 0
	for _, c := range tunables() {
		c.tuned, _ = impl.TuneAngle(c.pair.Upper, c.x)
		for _, d := range met[c.pair] {
			if (orderByHand(c.tuned, d.tuned) < 0) != (orderByHand(c.x, d.x) < 0) {
				t.Errorf("%v and %v are tuned to %v and %v by %v", c.x, d.x, c.tuned, d.tuned, c.pair)
			}
			compared++
		}
		met[c.pair] = append(met[c.pair], c)
	}
	if compared < 250000 {
		t.Errorf("only %d angles are compared", compared)
	}
}

// tunedPairs gives out ray pairs, all those of two periods that make one of at most some number, with what
// the second one is tuned to by the first one, and the period of this.
func tunedPairs(most int) func(func([3]impl.RayPair, int) bool) {
	lists := pairsByHand()
	return func(yield func([3]impl.RayPair, int) bool) {
		for n, pairs := range lists {
			for m := 2; n*m <= most && m < len(lists); m++ {
				for _, pair := range pairs {
					for _, own := range lists[m] {
						tuned, code := impl.TunePair(pair.Lower, own.Lower)
						if code == impl.ErrNone && !yield([3]impl.RayPair{pair, own, tuned}, n*m) {
							return
						}
					}
				}
			}
		}
	}
}

// Promise 17: tuned words are the words of tuned pairs. Where the period of these is too great for WordsOf,
// the words are the digits of their angles.
func TestTunedWordsAreTheWordsOfTunedPairs(t *testing.T) {
	asked, expanded := 0, 0
	for c, period := range tunedPairs(24) {
		words, code := impl.TunedWords(c[0].Upper, c[1].Upper)
		if code != impl.ErrNone || len(words) != 2 || len(words[0]) != period || len(words[1]) != period {
			t.Fatalf("TunedWords(%v, %v) = %q, %d", c[0].Upper, c[1].Upper, words, code)
		}
		for i, end := range bothAngles(c[2]) {
			s, code := impl.ExpansionOf(end)
			checkSequence(t, fmt.Sprintf("ExpansionOf(%v)", end), s, code, sequence("", words[i]), impl.ErrNone)
			expanded++
			if period <= 8 {
				same, code := impl.WordsOf(end)
				checkTexts(t, fmt.Sprintf("WordsOf(%v)", end), same, code, words, impl.ErrNone)
				asked++
			}
		}
	}
	// One pair of the period 4, six of the period 6, and twelve of the period 8, of which one arises twice.
	if asked != 2*(1+6+12) || expanded < 400 {
		t.Errorf("words of %d angles are asked for, digits of %d angles", asked, expanded)
	}
}

// A tuned ray pair is a ray pair, too: one of chapter 4, if its period is not too great, and otherwise one
// with the same kneading sequence for both angles.
func TestTunedPairsArePairs(t *testing.T) {
	for c, period := range tunedPairs(24) {
		if orderByHand(c[2].Lower, c[2].Upper) >= 0 {
			t.Errorf("%v tuned by %v is %v", c[1], c[0], c[2])
		}
		s, code := impl.KneadingOf(c[2].Lower)
		other, otherCode := impl.KneadingOf(c[2].Upper)
		checkSequence(t, fmt.Sprintf("KneadingOf(%v)", c[2].Upper), other, otherCode, s, code)
		if period <= 8 {
			pair, code := impl.PairOf(c[2].Upper)
			checkPair(t, fmt.Sprintf("PairOf(%v)", c[2].Upper), pair, code, c[2], impl.ErrNone)
			simple, code := impl.IsSimpleAngle(c[2].Lower)
			checkAnswer(t, fmt.Sprintf("IsSimpleAngle(%v)", c[2].Lower), simple, code, false, impl.ErrNone)
		}
	}
}

// An angle that is tuned by a tuned pair is tuned twice, and renormalizable by both pairs.
func TestTuningTwice(t *testing.T) {
	twice := 0
	for c, period := range tunedPairs(8) {
		for _, x := range anglesUpTo(16) {
			want, wantCode := impl.TuneAngle(c[2].Lower, x)
			inner, code := impl.TuneAngle(c[1].Lower, x)
			if code != impl.ErrNone || wantCode != impl.ErrNone {
				continue
			}
			got, code := impl.TuneAngle(c[0].Lower, inner)
			checkAngle(t, fmt.Sprintf("TuneAngle(%v, TuneAngle(%v, %v))", c[0].Lower, c[1].Lower, x), got, code, want, impl.ErrNone)
			pairs, code := impl.RenormalizationsOf(got, int64(period))
			if code != impl.ErrNone || len(pairs) < 2 || pairOfAngle(t, c[0].Lower, pairs) != c[0] || pairOfAngle(t, c[2].Lower, pairs) != c[2] {
				t.Errorf("RenormalizationsOf(%v, %d) = %v, %d", got, period, pairs, code)
			}
			twice++
		}
	}
	if twice < 50 {
		t.Errorf("only %d angles are tuned twice", twice)
	}
}

// RenormalizationsOf has those ray pairs that IsRenormalizable tells, and an angle is simple if there are
// none of a smaller period.
func TestRenormalizationsAreToldAlike(t *testing.T) {
	all := allPairs(t)
	for n := int64(2); n <= 6; n++ {
		for _, y := range kneadingAngles(n) {
			want := []impl.RayPair{}
			for _, pair := range all {
				if _, period := orbitByNumbers(pair.Lower.Num, pair.Lower.Den); period <= n {
					if is, code := impl.IsRenormalizable(pair.Lower, y); is && code == impl.ErrNone {
						want = append(want, pair)
					}
				}
			}
			got, code := impl.RenormalizationsOf(y, n)
			checkPairs(t, fmt.Sprintf("RenormalizationsOf(%v, %d)", y, n), got, code, want, impl.ErrNone)
			smaller := 0
			for _, pair := range want {
				if _, period := orbitByNumbers(pair.Lower.Num, pair.Lower.Den); period < n {
					smaller++
				}
			}
			simple, code := impl.IsSimpleAngle(y)
			checkAnswer(t, fmt.Sprintf("IsSimpleAngle(%v)", y), simple, code, smaller == 0, impl.ErrNone)
		}
	}
}
