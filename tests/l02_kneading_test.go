package tests

import (
	"fmt"
	"strings"
	"testing"

	"loop.example/g01234/impl"
)

func TestConstantsOfChapter2(t *testing.T) {
	if impl.MaxAddress != 20 || impl.MaxWord != 40 {
		t.Errorf("the limits are %d and %d", impl.MaxAddress, impl.MaxWord)
	}
}

func TestLetterOf(t *testing.T) {
	for _, c := range []struct {
		x, t impl.Angle
		want string
	}{
		{angle(1, 3), angle(1, 3), "1"}, {angle(2, 3), angle(1, 3), "*"}, {angle(1, 6), angle(1, 3), "*"},
		{angle(0, 1), angle(1, 3), "0"}, {angle(5, 6), angle(1, 3), "0"}, {angle(1, 2), angle(1, 3), "1"},
		{angle(0, 1), angle(0, 1), "*"}, {angle(1, 2), angle(0, 1), "*"}, {angle(1, 3), angle(0, 1), "1"}, {angle(2, 3), angle(0, 1), "0"},
		{angle(0, 1), angle(1, 2), "0"}, {angle(1, 2), angle(1, 2), "1"}, {angle(1, 4), angle(1, 2), "*"}, {angle(3, 4), angle(1, 2), "*"},
		{angle(8190, 8191), angle(8190, 8191), "1"}, {angle(4095, 8191), angle(8190, 8191), "*"}, {angle(4096, 8191), angle(8190, 8191), "1"},
		{angle(1, 2), angle(8190, 8191), "1"}, {angle(4094, 8191), angle(8190, 8191), "0"},
		{angle(1, 8179), angle(1, 8179), "1"}, {angle(4090, 8179), angle(1, 8179), "*"}, {angle(4091, 8179), angle(1, 8179), "0"},
		// Halves can have a Den that is too great for angles.
		{angle(1, 8191), angle(1, 4096), "1"}, {angle(1, 8191), angle(1, 4095), "0"}, {angle(1, 8190), angle(1, 4095), "*"}, {angle(1, 8189), angle(1, 4095), "1"},
		{angle(0, 1), angle(1, 8191), "0"}, {angle(1, 2), angle(1, 8191), "1"}, {angle(4097, 8191), angle(1, 8191), "0"}, {angle(4097, 8191), angle(3, 8191), "*"},
	} {
		got, code := impl.LetterOf(c.x, c.t)
		checkText(t, fmt.Sprintf("LetterOf(%v, %v)", c.x, c.t), got, code, c.want, impl.ErrNone)
	}
}

// TestLettersByNumbers holds letters against those that are found without halves and arcs.
func TestLettersByNumbers(t *testing.T) {
	count := map[string]int{}
	pairs := anglesUpTo(24)
	for _, list := range [][]impl.Angle{pairs, {angle(1, 8191), angle(1, 8190), angle(4096, 8191), angle(8190, 8191), angle(4095, 4096), angle(2047, 4095)}} {
		for _, x := range list {
			for _, y := range append(list, pairs...) {
				got, code := impl.LetterOf(x, y)
				checkText(t, fmt.Sprintf("LetterOf(%v, %v)", x, y), got, code, kneadingLetterByNumbers(x, y), impl.ErrNone)
				count[got]++
			}
		}
	}
	if len(count) != 3 {
		t.Errorf("the letters are %v", count)
	}
}

func TestErrorsOfLetterOf(t *testing.T) {
	for _, bad := range notAngles() {
		for _, good := range []impl.Angle{angle(1, 3), angle(1, 8179), bad} {
			got, code := impl.LetterOf(bad, good)
			checkText(t, fmt.Sprintf("LetterOf(%v, %v)", bad, good), got, code, "", impl.ErrInvalid)
			got, code = impl.LetterOf(good, bad)
			checkText(t, fmt.Sprintf("LetterOf(%v, %v)", good, bad), got, code, "", impl.ErrInvalid)
		}
	}
}

func TestItineraryOf(t *testing.T) {
	for _, c := range []struct {
		x, t impl.Angle
		want impl.Sequence
	}{
		{angle(1, 6), angle(1, 3), sequence("", "*1")}, {angle(1, 3), angle(1, 3), sequence("", "1*")}, {angle(2, 3), angle(1, 3), sequence("", "*1")},
		{angle(0, 1), angle(1, 3), sequence("", "0")}, {angle(1, 2), angle(1, 3), sequence("1", "0")}, {angle(5, 6), angle(1, 3), sequence("0", "*1")},
		{angle(1, 3), angle(1, 7), sequence("", "10")}, {angle(1, 7), angle(2, 7), sequence("", "*11")}, {angle(1, 2), angle(0, 1), sequence("", "*")},
		{angle(1, 3), angle(1, 5), sequence("", "10")}, {angle(1, 7), angle(0, 1), sequence("", "110")}, {angle(1, 4), angle(1, 2), sequence("*1", "0")},
		{angle(1, 7), angle(3, 7), sequence("", "011")}, {angle(5, 7), angle(3, 7), sequence("", "*10")}, {angle(1, 3), angle(1, 2), sequence("", "1")},
		// The orbit of t is as long as it likes, as its letters are not asked.
		{angle(1, 3), angle(1, 8179), sequence("", "10")}, {angle(0, 1), angle(8190, 8191), sequence("", "0")},
	} {
		got, code := impl.ItineraryOf(c.x, c.t)
		checkSequence(t, fmt.Sprintf("ItineraryOf(%v, %v)", c.x, c.t), got, code, c.want, impl.ErrNone)
	}
}

// lettersOfOrbit returns the letters for u of x, its double, and so on, n in number, found without
// the program.
func lettersOfOrbit(x, u impl.Angle, n int) string {
	letters := ""
	for range n {
		letters += kneadingLetterByNumbers(x, u)
		x = reduced(2*x.Num, x.Den)
	}
	return letters
}

// TestLettersOfItineraries holds itineraries against the letters of doubles, up to orbits of
// MaxOrbit angles, and beyond.
func TestLettersOfItineraries(t *testing.T) {
	full, tooLong := 0, 0
	starts := append(anglesUpTo(16), angle(1, 641), angle(15, 976), angle(1, 1282), angle(1, 1952), angle(1, 8179), angle(1, 4096), angle(8190, 8191), angle(1, 8190))
	for _, x := range starts {
		preperiod, period := orbitByNumbers(x.Num, x.Den)
		for _, u := range append(anglesUpTo(9), x, reduced(x.Num+1, x.Den), angle(1, 8179), angle(8190, 8191)) {
			got, code := impl.ItineraryOf(x, u)
			if preperiod+period > 64 {
				tooLong++
				checkSequence(t, fmt.Sprintf("ItineraryOf(%v, %v)", x, u), got, code, sequence("", ""), impl.ErrLimit)
				continue
			}
			if preperiod+period == 64 {
				full++
			}
			if code != impl.ErrNone || !isToldOnce(got.Pre, got.Per) || lettersByHand(got, 200) != lettersOfOrbit(x, u, 200) {
				t.Errorf("ItineraryOf(%v, %v) = %q, %d, but the letters are %s..", x, u, got, code, lettersOfOrbit(x, u, 100))
			}
		}
	}
	if full < 10 || tooLong < 10 {
		t.Errorf("%d itineraries are as long as they may be, %d too long", full, tooLong)
	}
}

func TestErrorsOfItineraryOf(t *testing.T) {
	for _, bad := range notAngles() {
		for _, good := range []impl.Angle{angle(1, 3), angle(1, 8179), bad} {
			got, code := impl.ItineraryOf(bad, good)
			checkSequence(t, fmt.Sprintf("ItineraryOf(%v, %v)", bad, good), got, code, sequence("", ""), impl.ErrInvalid)
			got, code = impl.ItineraryOf(good, bad)
			checkSequence(t, fmt.Sprintf("ItineraryOf(%v, %v)", good, bad), got, code, sequence("", ""), impl.ErrInvalid)
		}
		got, code := impl.KneadingOf(bad)
		checkSequence(t, fmt.Sprintf("KneadingOf(%v)", bad), got, code, sequence("", ""), impl.ErrInvalid)
	}
}

func TestKneadingOf(t *testing.T) {
	for _, c := range []struct {
		a    impl.Angle
		want impl.Sequence
		code int64
	}{
		{angle(1, 7), sequence("", "11*"), impl.ErrNone}, {angle(2, 7), sequence("", "11*"), impl.ErrNone},
		{angle(3, 7), sequence("", "10*"), impl.ErrNone}, {angle(4, 7), sequence("", "10*"), impl.ErrNone},
		{angle(5, 7), sequence("", "11*"), impl.ErrNone}, {angle(6, 7), sequence("", "11*"), impl.ErrNone},
		{angle(1, 3), sequence("", "1*"), impl.ErrNone}, {angle(2, 3), sequence("", "1*"), impl.ErrNone},
		{angle(0, 1), sequence("", "*"), impl.ErrNone}, {angle(1, 2), sequence("1", "0"), impl.ErrNone},
		{angle(1, 4), sequence("11", "0"), impl.ErrNone}, {angle(1, 6), sequence("1", "10"), impl.ErrNone},
		{angle(1, 15), sequence("", "111*"), impl.ErrNone}, {angle(1, 5), sequence("", "110*"), impl.ErrNone},
		{angle(2, 5), sequence("", "101*"), impl.ErrNone}, {angle(7, 15), sequence("", "100*"), impl.ErrNone},
		{angle(1, 8191), sequence("", "111111111111*"), impl.ErrNone}, {angle(4095, 8191), sequence("", "100000000000*"), impl.ErrNone},
		{angle(1, 4096), sequence("111111111111", "0"), impl.ErrNone},
		{angle(1, 641), sequence("", lettersOfOrbit(angle(1, 641), angle(1, 641), 64)), impl.ErrNone},
		{angle(1, 1282), sequence("", ""), impl.ErrLimit}, {angle(1, 1952), sequence("", ""), impl.ErrLimit}, {angle(1, 8179), sequence("", ""), impl.ErrLimit},
	} {
		got, code := impl.KneadingOf(c.a)
		checkSequence(t, fmt.Sprintf("KneadingOf(%v)", c.a), got, code, c.want, c.code)
	}
	for _, a := range sampleAngles() {
		got, code := impl.KneadingOf(a)
		want, wantCode := impl.ItineraryOf(a, a)
		checkSequence(t, fmt.Sprintf("KneadingOf(%v)", a), got, code, want, wantCode)
	}
}

func TestDifferenceOf(t *testing.T) {
	zeros := strings.Repeat("0", 63)
	for _, c := range []struct {
		s, t impl.Sequence
		want int64
	}{
		{sequence("", "11*"), sequence("", "10*"), 2}, {sequence("", "0"), sequence("", "1"), 1}, {sequence("", "0"), sequence("", "*"), 1},
		{sequence("", "1"), sequence("", "11*"), 3}, {sequence("", "1*"), sequence("", "1*1"), 4}, {sequence("1", "0"), sequence("", "10"), 3},
		{sequence("", "10"), sequence("10", "1"), 4}, {sequence("0", "1"), sequence("0", "1*"), 3}, {sequence("01", "0*"), sequence("", "01"), 4},
		{sequence(zeros, "1"), sequence("", "0"), 64}, {sequence("", zeros+"1"), sequence("", zeros+"*"), 64}, {sequence(zeros, "1"), sequence("", zeros+"1"), 65},
		// Two periods can agree in all letters but one or two of those that both have together.
		{sequence("", zeros+"1"), sequence("", zeros[1:]+"1"), 63}, {sequence("", zeros+"*"), sequence(zeros, "*"), 65},
		{sequence("", "0"+strings.Repeat("10", 31)), sequence("", "01"), 64}, {sequence("", "01010"), sequence("", "01"), 6},
		{sequence("", "0101001"), sequence("", "01010"), 11}, {sequence("", "01001010"), sequence("", "01001"), 12},
	} {
		got, code := impl.DifferenceOf(c.s, c.t)
		checkNumber(t, fmt.Sprintf("DifferenceOf(%q, %q)", c.s, c.t), got, code, c.want, impl.ErrNone)
		got, code = impl.DifferenceOf(c.t, c.s)
		checkNumber(t, fmt.Sprintf("DifferenceOf(%q, %q)", c.t, c.s), got, code, c.want, impl.ErrNone)
	}
	for _, s := range append(sampleSequences("01*"), longSequences()...) {
		got, code := impl.DifferenceOf(s, s)
		checkNumber(t, fmt.Sprintf("DifferenceOf(%q, the same)", s), got, code, 0, impl.ErrNotFound)
	}
	for _, bad := range notSequences() {
		for _, good := range []impl.Sequence{sequence("", "1"), sequence("", zeros+"*"), bad} {
			got, code := impl.DifferenceOf(bad, good)
			checkNumber(t, fmt.Sprintf("DifferenceOf(%q, %q)", bad, good), got, code, 0, impl.ErrInvalid)
			got, code = impl.DifferenceOf(good, bad)
			checkNumber(t, fmt.Sprintf("DifferenceOf(%q, %q)", good, bad), got, code, 0, impl.ErrInvalid)
		}
	}
}

// TestDifferencesOfLetters holds differences against the letters of both sequences.
func TestDifferencesOfLetters(t *testing.T) {
	list := append(sampleSequences("01"), sequence("*", "1"), sequence("", "10*"), sequence("01", "*"))
	for _, s := range list {
		for _, u := range list {
			if s == u {
				continue
			}
			want := int64(1)
			for lettersByHand(s, int(want)) == lettersByHand(u, int(want)) {
				want++
			}
			got, code := impl.DifferenceOf(s, u)
			checkNumber(t, fmt.Sprintf("DifferenceOf(%q, %q)", s, u), got, code, want, impl.ErrNone)
		}
	}
}

func TestReplaceStar(t *testing.T) {
	zeros := strings.Repeat("0", 63)
	for _, c := range []struct {
		s      impl.Sequence
		letter string
		want   impl.Sequence
	}{
		{sequence("", "11*"), "1", sequence("", "1")}, {sequence("", "11*"), "0", sequence("", "110")},
		{sequence("", "*"), "0", sequence("", "0")}, {sequence("", "*"), "1", sequence("", "1")},
		{sequence("", "1*"), "0", sequence("", "10")}, {sequence("", "101*"), "0", sequence("", "10")}, {sequence("", "101*"), "1", sequence("", "1011")},
		{sequence("*", "1"), "1", sequence("", "1")}, {sequence("*", "1"), "0", sequence("0", "1")}, {sequence("*0*", "01"), "1", sequence("", "10")},
		{sequence("1", "*0"), "1", sequence("1", "10")}, {sequence("*", "0*1"), "1", sequence("", "101")}, {sequence("0*", "*1"), "1", sequence("0", "1")},
		{sequence("", "***0"), "1", sequence("", "1110")}, {sequence("0", "01"), "1", sequence("0", "01")}, {sequence("", "110"), "0", sequence("", "110")},
		{sequence("", zeros+"*"), "0", sequence("", "0")}, {sequence("", zeros+"*"), "1", sequence("", zeros+"1")},
	} {
		got, code := impl.ReplaceStar(c.s, c.letter)
		checkSequence(t, fmt.Sprintf("ReplaceStar(%q, %s)", c.s, c.letter), got, code, c.want, impl.ErrNone)
	}
	for _, s := range append(sampleSequences("01*"), longSequences()...) {
		for _, letter := range []string{"0", "1"} {
			got, code := impl.ReplaceStar(s, letter)
			want := strings.ReplaceAll(lettersByHand(s, 200), "*", letter)
			if code != impl.ErrNone || !isToldOnce(got.Pre, got.Per) || lettersByHand(got, 200) != want {
				t.Errorf("ReplaceStar(%q, %s) = %q, %d", s, letter, got, code)
			}
		}
	}
}

func TestErrorsOfReplaceStar(t *testing.T) {
	for _, letter := range []string{"", "*", "2", "00", "01", "11", "a", " ", "0 ", " 1", "1\n", "\x00", "\x01", "é", "\xff", strings.Repeat("1", 1000)} {
		for _, s := range []impl.Sequence{sequence("", "11*"), sequence("", "1"), sequence("0", "1*")} {
			got, code := impl.ReplaceStar(s, letter)
			checkSequence(t, fmt.Sprintf("ReplaceStar(%q, %q)", s, letter), got, code, sequence("", ""), impl.ErrRange)
		}
	}
	for _, bad := range notSequences() {
		for _, letter := range []string{"0", "1", "*", ""} {
			got, code := impl.ReplaceStar(bad, letter)
			checkSequence(t, fmt.Sprintf("ReplaceStar(%q, %q)", bad, letter), got, code, sequence("", ""), impl.ErrInvalid)
		}
	}
}
