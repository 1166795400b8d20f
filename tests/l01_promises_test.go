package tests

import (
	"fmt"
	"testing"

	"loop.example/g01234/impl"
)

// Promise 1: doubles of halves are the angle.
func TestDoublesOfHalvesAreTheAngle(t *testing.T) {
	for _, a := range sampleAngles() {
		halves, code := impl.HalvesOf(a)
		if a.Den > 4095 {
			checkAngles(t, fmt.Sprintf("HalvesOf(%v)", a), halves, code, nil, impl.ErrLimit)
			continue
		}
		if code != impl.ErrNone || len(halves) != 2 {
			t.Fatalf("HalvesOf(%v) = %v, %d", a, halves, code)
		}
		for _, half := range halves {
			double, code := impl.DoubleAngle(half)
			checkAngle(t, fmt.Sprintf("the double of the half %v", half), double, code, a, impl.ErrNone)
		}
		opposite, code := impl.AddAngles(halves[0], angle(1, 2))
		checkAngle(t, fmt.Sprintf("the other half of %v", a), opposite, code, halves[1], impl.ErrNone)
		if 2*halves[0].Num >= halves[0].Den {
			t.Errorf("HalvesOf(%v) = %v begins with the greater half", a, halves)
		}
	}
}

// Promise 1: angles come back from their texts.
func TestAnglesComeBackFromTheirTexts(t *testing.T) {
	for _, a := range sampleAngles() {
		text, code := impl.AngleText(a)
		checkText(t, fmt.Sprintf("AngleText(%v)", a), text, code, fmt.Sprintf("%d/%d", a.Num, a.Den), impl.ErrNone)
		back, code := impl.ParseAngle(text)
		checkAngle(t, fmt.Sprintf("ParseAngle(%q)", text), back, code, a, impl.ErrNone)
	}
}

// Promise 1: sequences come back from their texts.
func TestSequencesComeBackFromTheirTexts(t *testing.T) {
	for _, s := range append(sampleSequences("01*"), longSequences()...) {
		text, code := impl.SequenceText(s)
		checkText(t, fmt.Sprintf("SequenceText(%q)", s), text, code, s.Pre+"("+s.Per+")", impl.ErrNone)
		back, code := impl.ParseSequence(text)
		checkSequence(t, fmt.Sprintf("ParseSequence(%q)", text), back, code, s, impl.ErrNone)
	}
}

// Promise 15: expansions lead back to their angles.
func TestExpansionsLeadBackToTheirAngles(t *testing.T) {
	long := 0
	for _, a := range append(sampleAngles(), angle(1, 641), angle(15, 976)) {
		expansion, code := impl.ExpansionOf(a)
		if preperiod, period := orbitByNumbers(a.Num, a.Den); preperiod+period > 64 {
			checkSequence(t, fmt.Sprintf("ExpansionOf(%v)", a), expansion, code, sequence("", ""), impl.ErrLimit)
			continue
		}
		if code != impl.ErrNone || !impl.IsSequence(expansion) {
			t.Fatalf("ExpansionOf(%v) = %q, %d", a, expansion, code)
		}
		if len(expansion.Pre)+len(expansion.Per) > 40 {
			long++
		}
		back, code := impl.AngleOfSequence(expansion)
		checkAngle(t, fmt.Sprintf("AngleOfSequence(%q)", expansion), back, code, a, impl.ErrNone)
	}
	if long < 10 {
		t.Errorf("only %d long expansions are among the samples", long)
	}
}

// Promise 15: the expansion of the double is the shifted one.
func TestExpansionsOfDoublesAreShifted(t *testing.T) {
	for _, a := range append(sampleAngles(), angle(1, 641), angle(15, 976)) {
		expansion, code := impl.ExpansionOf(a)
		if code != impl.ErrNone {
			continue
		}
		double, _ := impl.DoubleAngle(a)
		shifted, shiftCode := impl.ShiftSequence(expansion)
		if shiftCode != impl.ErrNone {
			t.Fatalf("ShiftSequence(%q): code %d", expansion, shiftCode)
		}
		got, code := impl.ExpansionOf(double)
		checkSequence(t, fmt.Sprintf("ExpansionOf(%v)", double), got, code, shifted, impl.ErrNone)
	}
}

// The guarantee of chapter 1: cyclic orders change their sign when two angles are exchanged.
func TestCyclicOrdersChangeTheirSign(t *testing.T) {
	list := append(anglesUpTo(8), angle(1, 8191), angle(1, 8190), angle(8190, 8191), angle(8189, 8190))
	for _, a := range list {
		for _, b := range list {
			for _, c := range list {
				order, code := impl.CyclicOrder(a, b, c)
				if code != impl.ErrNone || (order == 0) != (a == b || b == c || a == c) {
					t.Fatalf("CyclicOrder(%v, %v, %v) = %d, %d", a, b, c, order, code)
				}
				for _, x := range [][3]impl.Angle{{b, a, c}, {a, c, b}, {c, b, a}} {
					got, code := impl.CyclicOrder(x[0], x[1], x[2])
					checkNumber(t, fmt.Sprintf("CyclicOrder(%v)", x), got, code, -order, impl.ErrNone)
				}
			}
		}
	}
}
