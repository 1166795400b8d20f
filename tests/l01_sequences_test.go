package tests

import (
	"fmt"
	"math"
	"strings"
	"testing"

	"loop.example/g01234/impl"
)

func TestIsSequence(t *testing.T) {
	for _, s := range append(sampleSequences("01*"), longSequences()...) {
		if !impl.IsSequence(s) {
			t.Errorf("%q is no sequence", s)
		}
	}
	for _, s := range notSequences() {
		if impl.IsSequence(s) {
			t.Errorf("%q is a sequence", s)
		}
	}
	for _, pre := range words("01*", 0, 2) {
		for _, per := range words("01*", 0, 6) {
			if got, want := impl.IsSequence(sequence(pre, per)), isToldOnce(pre, per); got != want {
				t.Errorf("IsSequence of %q and %q is %v", pre, per, got)
			}
		}
	}
}

func TestSequenceOf(t *testing.T) {
	for _, c := range []struct {
		pre, per string
		want     impl.Sequence
	}{
		{"1", "0101", sequence("", "10")},
		{"0", "01", sequence("0", "01")},
		{"", "0", sequence("", "0")},
		{"", "*", sequence("", "*")},
		{"000", "0", sequence("", "0")},
		{"000", "00", sequence("", "0")},
		{"1000", "0", sequence("1", "0")},
		{"0*", "1*1*", sequence("0", "*1")},
		{"0*1", "1*1*", sequence("0*1", "1*")},
		{"11*11*", "11*", sequence("", "11*")},
		{"1*11*", "11*", sequence("", "1*1")},
		{"011*11*", "11*", sequence("0", "11*")},
		{"", "011011", sequence("", "011")},
		{"", "01101", sequence("", "01101")},
		{"1", "1001", sequence("", "1100")},
	} {
		got, code := impl.SequenceOf(c.pre, c.per)
		checkSequence(t, fmt.Sprintf("SequenceOf(%q, %q)", c.pre, c.per), got, code, c.want, impl.ErrNone)
	}
}

// TestSequenceOfShortWords holds the letters of sequences, LetterAt and ShiftSequence against the
// words of which they are made.
func TestSequenceOfShortWords(t *testing.T) {
	for _, pre := range words("01*", 0, 3) {
		for _, per := range words("01*", 1, 4) {
			s, code := impl.SequenceOf(pre, per)
			if code != impl.ErrNone || !isToldOnce(s.Pre, s.Per) || isToldOnce(pre, per) && s != sequence(pre, per) {
				t.Fatalf("SequenceOf(%q, %q) = %q, %d", pre, per, s, code)
			}
			shifted, code := impl.ShiftSequence(s)
			if code != impl.ErrNone || !isToldOnce(shifted.Pre, shifted.Per) {
				t.Fatalf("ShiftSequence(%q) = %q, %d", s, shifted, code)
			}
			for k := range 20 {
				letter, code := impl.LetterAt(s, int64(k))
				checkText(t, fmt.Sprintf("LetterAt(%q, %d)", s, k), letter, code, letterByHand(pre, per, k), impl.ErrNone)
				if got := letterByHand(shifted.Pre, shifted.Per, k); got != letterByHand(pre, per, k+1) {
					t.Errorf("ShiftSequence(%q) = %q has the letter %s at %d", s, shifted, got, k)
				}
			}
		}
	}
}

func TestErrorsOfSequenceOf(t *testing.T) {
	zeros := strings.Repeat("0", 64)
	for _, c := range []struct {
		pre, per string
		want     impl.Sequence
		code     int64
	}{
		{"", "", sequence("", ""), impl.ErrInvalid},
		{"0", "", sequence("", ""), impl.ErrInvalid},
		{zeros + "0", "", sequence("", ""), impl.ErrInvalid},
		{"2", "0", sequence("", ""), impl.ErrInvalid},
		{"0", "2", sequence("", ""), impl.ErrInvalid},
		{"0a0", "1", sequence("", ""), impl.ErrInvalid},
		{"0", "1 1", sequence("", ""), impl.ErrInvalid},
		{"0", "1\n", sequence("", ""), impl.ErrInvalid},
		{"(", "1", sequence("", ""), impl.ErrInvalid},
		{"é", "1", sequence("", ""), impl.ErrInvalid},
		{"0", "1\xff1", sequence("", ""), impl.ErrInvalid},
		{"/", "1", sequence("", ""), impl.ErrInvalid},
		{zeros + "x", "1", sequence("", ""), impl.ErrInvalid},
		{zeros, "x", sequence("", ""), impl.ErrInvalid},
		{"x", zeros, sequence("", ""), impl.ErrInvalid},
		{zeros, "1", sequence("", ""), impl.ErrLimit},
		{zeros, "0", sequence("", ""), impl.ErrLimit},
		{"", zeros + "0", sequence("", ""), impl.ErrLimit},
		{"", zeros + "1", sequence("", ""), impl.ErrLimit},
		{"1", zeros, sequence("", ""), impl.ErrLimit},
		{zeros[:32], zeros[:33], sequence("", ""), impl.ErrLimit},
		{strings.Repeat(zeros, 100), strings.Repeat("1", 6400), sequence("", ""), impl.ErrLimit},
		{"", zeros, sequence("", "0"), impl.ErrNone},
		{zeros[:63], "1", sequence(zeros[:63], "1"), impl.ErrNone},
		{zeros[:63], "0", sequence("", "0"), impl.ErrNone},
		{"1", zeros[:63], sequence("1", "0"), impl.ErrNone},
		{zeros[:32], zeros[:32], sequence("", "0"), impl.ErrNone},
		{"", zeros[:63] + "1", sequence("", zeros[:63]+"1"), impl.ErrNone},
	} {
		got, code := impl.SequenceOf(c.pre, c.per)
		checkSequence(t, fmt.Sprintf("SequenceOf(%q, %q)", c.pre, c.per), got, code, c.want, c.code)
	}
}

func TestLetterAt(t *testing.T) {
	s := sequence("0*", "011")
	for _, c := range []struct {
		k    int64
		want string
		code int64
	}{
		{0, "0", impl.ErrNone}, {1, "*", impl.ErrNone}, {2, "0", impl.ErrNone}, {3, "1", impl.ErrNone}, {4, "1", impl.ErrNone}, {5, "0", impl.ErrNone},
		{999998, "0", impl.ErrNone}, {999999, "1", impl.ErrNone}, {1000000, "1", impl.ErrNone},
		{1000001, "", impl.ErrRange}, {-1, "", impl.ErrRange}, {math.MaxInt64, "", impl.ErrRange}, {math.MinInt64, "", impl.ErrRange},
	} {
		got, code := impl.LetterAt(s, c.k)
		checkText(t, fmt.Sprintf("LetterAt(%q, %d)", s, c.k), got, code, c.want, c.code)
	}
	for _, s := range longSequences() {
		for k := range 200 {
			got, code := impl.LetterAt(s, int64(k))
			checkText(t, fmt.Sprintf("LetterAt(%q, %d)", s, k), got, code, letterByHand(s.Pre, s.Per, k), impl.ErrNone)
		}
	}
	for _, bad := range notSequences() {
		for _, k := range []int64{0, 3, -1, 1000001} {
			got, code := impl.LetterAt(bad, k)
			checkText(t, fmt.Sprintf("LetterAt(%q, %d)", bad, k), got, code, "", impl.ErrInvalid)
		}
	}
}

func TestShiftSequence(t *testing.T) {
	for _, c := range [][2]impl.Sequence{
		{sequence("0", "01"), sequence("", "01")},
		{sequence("", "01"), sequence("", "10")},
		{sequence("", "1"), sequence("", "1")},
		{sequence("*0", "1"), sequence("0", "1")},
		{sequence("", "11*"), sequence("", "1*1")},
		{sequence(strings.Repeat("0", 63), "1"), sequence(strings.Repeat("0", 62), "1")},
		{sequence("", "1"+strings.Repeat("0", 63)), sequence("", strings.Repeat("0", 63)+"1")},
	} {
		got, code := impl.ShiftSequence(c[0])
		checkSequence(t, fmt.Sprintf("ShiftSequence(%q)", c[0]), got, code, c[1], impl.ErrNone)
	}
	for _, bad := range notSequences() {
		got, code := impl.ShiftSequence(bad)
		checkSequence(t, fmt.Sprintf("ShiftSequence(%q)", bad), got, code, sequence("", ""), impl.ErrInvalid)
	}
}

func TestExpansionOf(t *testing.T) {
	for _, c := range []struct {
		a    impl.Angle
		want impl.Sequence
	}{
		{angle(1, 6), sequence("0", "01")}, {angle(0, 1), sequence("", "0")}, {angle(1, 2), sequence("1", "0")},
		{angle(1, 3), sequence("", "01")}, {angle(2, 3), sequence("", "10")}, {angle(3, 4), sequence("11", "0")},
		{angle(1, 7), sequence("", "001")}, {angle(5, 6), sequence("1", "10")}, {angle(1, 4096), sequence("000000000001", "0")},
		{angle(8190, 8191), sequence("", "1111111111110")}, {angle(1, 8190), sequence("0", "000000000001")},
	} {
		got, code := impl.ExpansionOf(c.a)
		checkSequence(t, fmt.Sprintf("ExpansionOf(%v)", c.a), got, code, c.want, impl.ErrNone)
	}
	for _, bad := range notAngles() {
		got, code := impl.ExpansionOf(bad)
		checkSequence(t, fmt.Sprintf("ExpansionOf(%v)", bad), got, code, sequence("", ""), impl.ErrInvalid)
	}
}

// TestDigitsOfExpansions holds expansions against the digits that a division leaves, up to orbits
// of MaxOrbit angles, and beyond.
func TestDigitsOfExpansions(t *testing.T) {
	for _, a := range append(sampleAngles(), angle(1, 641), angle(15, 976)) {
		preperiod, period := orbitByNumbers(a.Num, a.Den)
		want, wantCode := sequence("", ""), int64(impl.ErrLimit)
		if preperiod+period <= 64 {
			digits := ""
			for num := a.Num; int64(len(digits)) < preperiod+period; num = 2 * num % a.Den {
				digits += fmt.Sprint(2 * num / a.Den)
			}
			want, wantCode = sequence(digits[:preperiod], digits[preperiod:]), impl.ErrNone
		}
		got, code := impl.ExpansionOf(a)
		checkSequence(t, fmt.Sprintf("ExpansionOf(%v)", a), got, code, want, wantCode)
	}
}

func TestAngleOfSequence(t *testing.T) {
	zeros := strings.Repeat("0", 64)
	for _, c := range []struct {
		s    impl.Sequence
		want impl.Angle
		code int64
	}{
		{sequence("0", "01"), angle(1, 6), impl.ErrNone},
		{sequence("", "0"), angle(0, 1), impl.ErrNone},
		{sequence("", "1"), angle(0, 1), impl.ErrNone},
		{sequence("0", "1"), angle(1, 2), impl.ErrNone},
		{sequence("1", "0"), angle(1, 2), impl.ErrNone},
		{sequence("10", "1"), angle(3, 4), impl.ErrNone},
		{sequence("110", "1"), angle(7, 8), impl.ErrNone},
		{sequence("", "0000000000001"), angle(1, 8191), impl.ErrNone},
		{sequence("", "1111111111110"), angle(8190, 8191), impl.ErrNone},
		{sequence("0", "000000000001"), angle(1, 8190), impl.ErrNone},
		{sequence("0", "0000000000001"), angle(0, 0), impl.ErrLimit},
		{sequence("000000000001", "0"), angle(1, 4096), impl.ErrNone},
		{sequence("000000000000", "1"), angle(1, 4096), impl.ErrNone},
		{sequence("0000000000001", "0"), angle(0, 0), impl.ErrLimit},
		{sequence("0000000000000", "1"), angle(0, 0), impl.ErrLimit},
		{sequence("", zeros[:13]+"1"), angle(0, 0), impl.ErrLimit},
		{sequence("", zeros[:63]+"1"), angle(0, 0), impl.ErrLimit},
		{sequence("", strings.Repeat("1", 63)+"0"), angle(0, 0), impl.ErrLimit},
		{sequence(zeros[:63], "1"), angle(0, 0), impl.ErrLimit},
		{sequence(strings.Repeat("1", 63), "0"), angle(0, 0), impl.ErrLimit},
		{sequence(zeros[:51], "0000000000001"), angle(0, 0), impl.ErrLimit},
		{sequence("", "*"), angle(0, 0), impl.ErrState},
		{sequence("", "0*"), angle(0, 0), impl.ErrState},
		{sequence("", "*0"), angle(0, 0), impl.ErrState},
		{sequence("*", "0"), angle(0, 0), impl.ErrState},
		{sequence("0", "11*"), angle(0, 0), impl.ErrState},
		{sequence("*000000000000001", "0"), angle(0, 0), impl.ErrState},
		{sequence("", zeros[:63]+"*"), angle(0, 0), impl.ErrState},
	} {
		got, code := impl.AngleOfSequence(c.s)
		checkAngle(t, fmt.Sprintf("AngleOfSequence(%q)", c.s), got, code, c.want, c.code)
	}
	for _, bad := range notSequences() {
		got, code := impl.AngleOfSequence(bad)
		checkAngle(t, fmt.Sprintf("AngleOfSequence(%q)", bad), got, code, angle(0, 0), impl.ErrInvalid)
	}
}

// TestAnglesOfShortSequences holds angles of sequences against the sum of both words.
func TestAnglesOfShortSequences(t *testing.T) {
	valueOf := func(word string) int64 {
		value := int64(0)
		for _, letter := range word {
			value = 2*value + int64(letter-'0')
		}
		return value
	}
	for _, pre := range words("01", 0, 6) {
		for _, per := range words("01", 1, 6) {
			if !isToldOnce(pre, per) {
				continue
			}
			den := int64(1)<<len(per) - 1
			want := reduced(valueOf(pre)*den+valueOf(per), den<<len(pre))
			got, code := impl.AngleOfSequence(sequence(pre, per))
			checkAngle(t, fmt.Sprintf("AngleOfSequence(%q, %q)", pre, per), got, code, want, impl.ErrNone)
		}
	}
}

func TestSequenceText(t *testing.T) {
	for _, c := range []struct {
		s    impl.Sequence
		want string
	}{
		{sequence("0", "01"), "0(01)"}, {sequence("", "11*"), "(11*)"}, {sequence("*", "0"), "*(0)"},
		{sequence(strings.Repeat("0", 63), "1"), strings.Repeat("0", 63) + "(1)"},
	} {
		got, code := impl.SequenceText(c.s)
		checkText(t, fmt.Sprintf("SequenceText(%q)", c.s), got, code, c.want, impl.ErrNone)
	}
	for _, bad := range notSequences() {
		got, code := impl.SequenceText(bad)
		checkText(t, fmt.Sprintf("SequenceText(%q)", bad), got, code, "", impl.ErrInvalid)
	}
}

func TestParseSequence(t *testing.T) {
	zeros := strings.Repeat("0", 64)
	for _, c := range []struct {
		text string
		want impl.Sequence
	}{
		{"0(01)", sequence("0", "01")}, {"(11*)", sequence("", "11*")}, {"*(0)", sequence("*", "0")}, {"(1)", sequence("", "1")},
		{"(" + zeros[1:] + "1)", sequence("", zeros[1:]+"1")}, {zeros[1:] + "(1)", sequence(zeros[1:], "1")},
	} {
		got, code := impl.ParseSequence(c.text)
		checkSequence(t, fmt.Sprintf("ParseSequence(%q)", c.text), got, code, c.want, impl.ErrNone)
	}
	for _, text := range []string{
		"", "01", "(", ")", "()", "0()", "0(", "0)", "(0", "0(01", "0(0(1)", "a(01)", "(0a)", "0(01)0", "0(01) ", " 0(01)", "0 (01)", "0( 01)", "0(01)\n",
		"(0101)", "(00)", "1(01)", "0(0)", "(0)(1)", "((0))", "(0))", "0(1)(1)", ")0(", "0[01]", "(2)", "(" + zeros + "1)", zeros + "(1)", "(\xff)", "0(01)\x00",
		zeros + zeros + "(1)", "(" + zeros + ")",
	} {
		got, code := impl.ParseSequence(text)
		checkSequence(t, fmt.Sprintf("ParseSequence(%q)", text), got, code, sequence("", ""), impl.ErrSyntax)
	}
}

// TestParseSequenceOfShortTexts holds all short texts against those that sequences have.
func TestParseSequenceOfShortTexts(t *testing.T) {
	known := map[string]impl.Sequence{}
	for _, pre := range words("01*", 0, 4) {
		for _, per := range words("01*", 1, 4) {
			if isToldOnce(pre, per) {
				known[pre+"("+per+")"] = sequence(pre, per)
			}
		}
	}
	for _, text := range words("01*()", 0, 6) {
		want, ok := known[text]
		wantCode := int64(impl.ErrSyntax)
		if ok {
			wantCode = impl.ErrNone
		}
		got, code := impl.ParseSequence(text)
		checkSequence(t, fmt.Sprintf("ParseSequence(%q)", text), got, code, want, wantCode)
	}
}
