package tests

import (
	"fmt"
	"testing"

	"loop.example/g01234/impl"
)

// allPairs returns the ray pairs of all periods, as the program finds them.
func allPairs(t *testing.T) []impl.RayPair {
	list := []impl.RayPair{}
	for n := int64(2); n <= 8; n++ {
		pairs, code := impl.PairsOfPeriod(n)
		if code != impl.ErrNone {
			t.Fatalf("PairsOfPeriod(%d): code %d", n, code)
		}
		list = append(list, pairs...)
	}
	return list
}

// Promise 4: partners are partners of each other. They have the same period, and all that is told of
// their pair is the same.
func TestPartnersArePartnersOfEachOther(t *testing.T) {
	for n := int64(2); n <= 8; n++ {
		angles, code := impl.AnglesOfPeriod(n)
		if code != impl.ErrNone {
			t.Fatalf("AnglesOfPeriod(%d): code %d", n, code)
		}
		for _, x := range angles {
			partner, code := impl.PartnerOf(x)
			if preperiod, period := orbitByNumbers(partner.Num, partner.Den); code != impl.ErrNone || partner == x || preperiod != 0 || period != n {
				t.Fatalf("PartnerOf(%v) = %v, %d", x, partner, code)
			}
			back, code := impl.PartnerOf(partner)
			checkAngle(t, fmt.Sprintf("PartnerOf(%v)", partner), back, code, x, impl.ErrNone)
			checkSamePair(t, x, partner)
		}
	}
}

// checkSamePair checks that two partners get the same answers.
func checkSamePair(t *testing.T, x, partner impl.Angle) {
	t.Helper()
	pair, code := impl.PairOf(x)
	other, otherCode := impl.PairOf(partner)
	checkPair(t, fmt.Sprintf("PairOf(%v)", partner), other, otherCode, pair, code)
	width, code := impl.WidthOf(x)
	otherWidth, otherCode := impl.WidthOf(partner)
	checkAngle(t, fmt.Sprintf("WidthOf(%v)", partner), otherWidth, otherCode, width, code)
	satellite, code := impl.IsSatellite(x)
	otherSatellite, otherCode := impl.IsSatellite(partner)
	checkAnswer(t, fmt.Sprintf("IsSatellite(%v)", partner), otherSatellite, otherCode, satellite, code)
	parent, code := impl.ParentOf(x)
	otherParent, otherCode := impl.ParentOf(partner)
	checkPair(t, fmt.Sprintf("ParentOf(%v)", partner), otherParent, otherCode, parent, code)
	depth, code := impl.DepthOf(x)
	otherDepth, otherCode := impl.DepthOf(partner)
	checkNumber(t, fmt.Sprintf("DepthOf(%v)", partner), otherDepth, otherCode, depth, code)
}

// Promise 4: pairs do not cross, and no two of them have an angle in common.
func TestPairsDoNotCross(t *testing.T) {
	list := allPairs(t)
	for i, a := range list {
		for _, b := range list[:i] {
			crosses, code := impl.ArePairsCrossing(a, b)
			checkAnswer(t, fmt.Sprintf("ArePairsCrossing(%v, %v)", a, b), crosses, code, false, impl.ErrNone)
			if doPairsCross(a, b) || a.Lower == b.Lower || a.Lower == b.Upper || a.Upper == b.Lower || a.Upper == b.Upper {
				t.Errorf("%v and %v are both pairs", a, b)
			}
		}
	}
}

// Promise 4: the wakes around an angle contain each other.
func TestWakesAroundAnAngleContainEachOther(t *testing.T) {
	inside := 0
	for _, x := range wakePoints() {
		wakes, code := impl.WakesAround(x, 8)
		if code != impl.ErrNone {
			t.Fatalf("WakesAround(%v, 8): code %d", x, code)
		}
		for i, wake := range wakes {
			if !isInWake(x, wake) {
				t.Errorf("WakesAround(%v, 8): %v is not around it", x, wake)
			}
			if i > 0 && !(isInWake(wake.Lower, wakes[i-1]) && isInWake(wake.Upper, wakes[i-1])) {
				t.Errorf("WakesAround(%v, 8): %v does not contain %v", x, wakes[i-1], wake)
			}
			inside += i
		}
	}
	if inside < 1000 {
		t.Errorf("only %d wakes are inside others", inside)
	}
}

// A pair is one of the wakes around the angles inside it, behind its parent, which is one, too.
func TestWakesBeginBehindTheirParents(t *testing.T) {
	for _, pair := range allPairs(t) {
		middle := reduced(pair.Lower.Num*pair.Upper.Den+pair.Upper.Num*pair.Lower.Den, 2*pair.Lower.Den*pair.Upper.Den)
		wakes, code := impl.WakesAround(middle, 8)
		parent, parentCode := impl.ParentOf(pair.Upper)
		if middle.Den > 8191 {
			t.Fatalf("%v is no angle", middle)
		}
		place := -1
		for i, wake := range wakes {
			if wake == pair {
				place = i
			}
		}
		switch {
		case code != impl.ErrNone || place < 0:
			t.Errorf("WakesAround(%v, 8) = %v, %d, without %v", middle, wakes, code, pair)
		case place == 0:
			checkPair(t, fmt.Sprintf("ParentOf(%v)", pair.Upper), parent, parentCode, impl.RayPair{}, impl.ErrNotFound)
		default:
			checkPair(t, fmt.Sprintf("ParentOf(%v)", pair.Upper), parent, parentCode, wakes[place-1], impl.ErrNone)
		}
	}
}

// Promise 13: both angles of a ray pair have the same kneading sequence, which is admissible.
func TestAnglesOfAPairHaveTheSameKneadingSequence(t *testing.T) {
	for _, pair := range allPairs(t) {
		_, period := orbitByNumbers(pair.Lower.Num, pair.Lower.Den)
		s, code := impl.KneadingOf(pair.Lower)
		if code != impl.ErrNone || int64(len(s.Per)) != period {
			t.Fatalf("KneadingOf(%v) = %q, %d", pair.Lower, s, code)
		}
		other, code := impl.KneadingOf(pair.Upper)
		checkSequence(t, fmt.Sprintf("KneadingOf(%v)", pair.Upper), other, code, s, impl.ErrNone)
		admissible, code := impl.IsAdmissible(s)
		checkAnswer(t, fmt.Sprintf("IsAdmissible(%q)", s), admissible, code, true, impl.ErrNone)
	}
}

// Promise 13, the other way round: each admissible sequence is the kneading sequence of a pair.
func TestAdmissibleSequencesBelongToPairs(t *testing.T) {
	pairsOf := map[string]int{}
	for _, pair := range allPairs(t) {
		s, _ := impl.KneadingOf(pair.Lower)
		pairsOf[s.Per]++
	}
	for n := int64(2); n <= 8; n++ {
		words, code := impl.AdmissibleWords(n)
		if code != impl.ErrNone || len(words) == 0 {
			t.Fatalf("AdmissibleWords(%d): %d words, code %d", n, len(words), code)
		}
		for _, word := range words {
			if pairsOf[word] == 0 {
				t.Errorf("%s belongs to no pair", word)
			}
			delete(pairsOf, word)
		}
	}
	if len(pairsOf) > 0 {
		t.Errorf("%v are not admissible", pairsOf)
	}
}

// A pair is a satellite if the last number of its internal address is a multiple of the one before.
func TestSatellitesAreToldByInternalAddresses(t *testing.T) {
	count := map[int64]int64{}
	for _, pair := range allPairs(t) {
		s, _ := impl.KneadingOf(pair.Lower)
		address, code := impl.InternalAddress(s)
		if code != impl.ErrNone || len(address) < 2 {
			t.Fatalf("InternalAddress(%q) = %v, %d", s, address, code)
		}
		last, before := address[len(address)-1], address[len(address)-2]
		satellite, code := impl.IsSatellite(pair.Lower)
		checkAnswer(t, fmt.Sprintf("IsSatellite(%v)", pair.Lower), satellite, code, last%before == 0, impl.ErrNone)
		if satellite {
			count[last]++
		}
	}
	for n := int64(2); n <= 8; n++ {
		got, code := impl.CountSatellites(n)
		checkNumber(t, fmt.Sprintf("CountSatellites(%d)", n), got, code, count[n], impl.ErrNone)
	}
}
