package tests

import (
	"fmt"
	"slices"
	"testing"

	"loop.example/g01234/impl"
)

// sampleAddresses returns all addresses with numbers of at most 12, and some with up to MaxAddress
// numbers of at most MaxWord.
func sampleAddresses() [][]int64 {
	list := append([][]int64{{1}}, longerAddresses([]int64{1}, 12)...)
	for step := int64(1); step <= 12; step++ {
		for first := int64(2); first <= 40; first++ {
			address := []int64{1}
			for next := first; next <= 40 && len(address) < 20; next += 1 + (next+first)%step {
				address = append(address, next)
				list = append(list, slices.Clone(address))
			}
		}
	}
	return list
}

// longerAddresses returns all lists that arise from an address by numbers of at most last behind
// its own ones.
func longerAddresses(address []int64, last int64) [][]int64 {
	list := [][]int64{}
	for next := address[len(address)-1] + 1; next <= last; next++ {
		longer := append(slices.Clone(address), next)
		list = append(list, longer)
		list = append(list, longerAddresses(longer, last)...)
	}
	return list
}

// Promise 2: addresses come back from their sequences.
func TestAddressesComeBackFromTheirSequences(t *testing.T) {
	list := sampleAddresses()
	full, last := 0, 0
	for _, address := range list {
		s, code := impl.SequenceOfAddress(address)
		if star, starCode := impl.IsStarPeriodic(s); code != impl.ErrNone || !star || starCode != impl.ErrNone || int64(len(s.Per)) != address[len(address)-1] {
			t.Fatalf("SequenceOfAddress(%v) = %q, %d", address, s, code)
		}
		back, code := impl.InternalAddress(s)
		checkNumbers(t, fmt.Sprintf("InternalAddress(%q)", s), back, code, address, impl.ErrNone)
		if len(address) == 20 {
			full++
		}
		if len(s.Per) == 40 {
			last++
		}
	}
	if len(list) < 2048 || full < 20 || last < 20 {
		t.Errorf("only %d addresses, %d with MaxAddress numbers and %d up to MaxWord, are among the samples", len(list), full, last)
	}
}

// Promise 2, the other way round: star-periodic sequences come back from their addresses.
func TestSequencesComeBackFromTheirAddresses(t *testing.T) {
	for n := 1; n <= 11; n++ {
		for _, s := range starSequences(n) {
			address, code := impl.InternalAddress(s)
			if code != impl.ErrNone {
				t.Fatalf("InternalAddress(%q): code %d", s, code)
			}
			back, code := impl.SequenceOfAddress(address)
			checkSequence(t, fmt.Sprintf("SequenceOfAddress(%v)", address), back, code, s, impl.ErrNone)
		}
	}
}

// Promise 2: rho leads along addresses.
func TestRhoLeadsAlongAddresses(t *testing.T) {
	list := append(sampleSequences("01*"), longSequences()...)
	for n := 1; n <= 8; n++ {
		list = append(list, starSequences(n)...)
	}
	for _, s := range list {
		address, code := impl.InternalAddress(s)
		if code != impl.ErrNone || len(address) == 0 || len(address) > 20 || address[0] != 1 {
			t.Fatalf("InternalAddress(%q) = %v, %d", s, address, code)
		}
		for i, k := range address {
			if k > 1000 {
				break
			}
			next, code := impl.RhoOf(s, k)
			if i+1 < len(address) {
				checkNumber(t, fmt.Sprintf("RhoOf(%q, %d)", s, k), next, code, address[i+1], impl.ErrNone)
			} else if len(address) < 20 {
				checkNumber(t, fmt.Sprintf("RhoOf(%q, %d)", s, k), next, code, 0, impl.ErrNotFound)
			}
		}
	}
}

// Promise 12: itineraries of doubled angles are shifted.
func TestItinerariesOfDoubledAnglesAreShifted(t *testing.T) {
	starts := append(anglesUpTo(20), angle(1, 641), angle(15, 976), angle(1, 4096), angle(8190, 8191), angle(1, 8190))
	for _, x := range starts {
		double, _ := impl.DoubleAngle(x)
		for _, u := range append(anglesUpTo(9), x, double, angle(1, 8179), angle(4095, 8191)) {
			itinerary, code := impl.ItineraryOf(x, u)
			if code != impl.ErrNone || !impl.IsSequence(itinerary) {
				t.Fatalf("ItineraryOf(%v, %v) = %q, %d", x, u, itinerary, code)
			}
			shifted, shiftCode := impl.ShiftSequence(itinerary)
			if shiftCode != impl.ErrNone {
				t.Fatalf("ShiftSequence(%q): code %d", itinerary, shiftCode)
			}
			got, code := impl.ItineraryOf(double, u)
			checkSequence(t, fmt.Sprintf("ItineraryOf(%v, %v)", double, u), got, code, shifted, impl.ErrNone)
			letter, code := impl.LetterOf(x, u)
			checkText(t, fmt.Sprintf("LetterOf(%v, %v)", x, u), letter, code, lettersByHand(itinerary, 1), impl.ErrNone)
		}
	}
}

// The guarantee of chapter 2: kneading sequences of periodic angles are admissible.
func TestKneadingSequencesOfPeriodicAnglesAreAdmissible(t *testing.T) {
	long := 0
	for _, a := range append(sampleAngles(), angle(1, 641), angle(319, 641)) {
		preperiod, period := orbitByNumbers(a.Num, a.Den)
		if period > 64 {
			continue
		}
		if preperiod > 0 {
			if s, code := impl.KneadingOf(a); code == impl.ErrNone {
				star, starCode := impl.IsStarPeriodic(s)
				checkAnswer(t, fmt.Sprintf("IsStarPeriodic(%q)", s), star, starCode, false, impl.ErrNone)
			}
			continue
		}
		s, code := impl.KneadingOf(a)
		if code != impl.ErrNone || int64(len(s.Per)) != period {
			t.Fatalf("KneadingOf(%v) = %q, %d", a, s, code)
		}
		admissible, code := impl.IsAdmissible(s)
		checkAnswer(t, fmt.Sprintf("IsAdmissible(%q)", s), admissible, code, true, impl.ErrNone)
		if period > 40 {
			long++
		}
	}
	if long < 10 {
		t.Errorf("only %d long kneading sequences are among the samples", long)
	}
}
