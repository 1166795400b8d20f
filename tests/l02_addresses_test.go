package tests

import (
	"fmt"
	"math"
	"slices"
	"strings"
	"testing"

	"loop.example/g01234/impl"
)

func TestRhoOf(t *testing.T) {
	kneading := sequence("", "11*")
	ones := strings.Repeat("1", 62)
	for _, c := range []struct {
		s    impl.Sequence
		k    int64
		want int64
		code int64
	}{
		{kneading, 1, 3, impl.ErrNone}, {kneading, 2, 3, impl.ErrNone}, {kneading, 3, 0, impl.ErrNotFound}, {kneading, 4, 6, impl.ErrNone},
		{kneading, 5, 6, impl.ErrNone}, {kneading, 6, 0, impl.ErrNotFound}, {kneading, 998, 999, impl.ErrNone}, {kneading, 999, 0, impl.ErrNotFound},
		{kneading, 1000, 1002, impl.ErrNone}, {kneading, 1001, 0, impl.ErrRange}, {kneading, 0, 0, impl.ErrRange}, {kneading, -1, 0, impl.ErrRange},
		{kneading, math.MaxInt64, 0, impl.ErrRange}, {kneading, math.MinInt64, 0, impl.ErrRange},
		{sequence("", "1"), 1, 0, impl.ErrNotFound}, {sequence("", "*"), 1, 0, impl.ErrNotFound}, {sequence("", "0"), 1000, 0, impl.ErrNotFound},
		{sequence("1", "0"), 1, 2, impl.ErrNone}, {sequence("1", "0"), 2, 3, impl.ErrNone}, {sequence("1", "0"), 1000, 1001, impl.ErrNone},
		{sequence("0", "01"), 1, 3, impl.ErrNone}, {sequence("0", "01"), 2, 3, impl.ErrNone}, {sequence("0", "01"), 3, 5, impl.ErrNone},
		{sequence("", "10110*"), 2, 4, impl.ErrNone}, {sequence("", "10110*"), 3, 6, impl.ErrNone}, {sequence("", "10110*"), 4, 5, impl.ErrNone},
		{sequence("", "**1"), 1, 3, impl.ErrNone}, {sequence("", "*1*"), 2, 4, impl.ErrNone}, {sequence("", "0*"), 1, 2, impl.ErrNone},
		// A difference can be as far away as both words are long together.
		{sequence(ones+"0", "1"), 1, 63, impl.ErrNone}, {sequence(ones+"0", "1"), 63, 126, impl.ErrNone}, {sequence(ones+"0", "1"), 1000, 1063, impl.ErrNone},
		{sequence("", ones+"1*"), 1, 64, impl.ErrNone}, {sequence("", ones+"1*"), 64, 0, impl.ErrNotFound}, {sequence("", ones+"1*"), 65, 128, impl.ErrNone},
		{sequence("1*", "10"), 1, 2, impl.ErrNone}, {sequence("101*", "10"), 4, 8, impl.ErrNone}, {sequence("101*", "10"), 6, 10, impl.ErrNone},
	} {
		got, code := impl.RhoOf(c.s, c.k)
		checkNumber(t, fmt.Sprintf("RhoOf(%q, %d)", c.s, c.k), got, code, c.want, c.code)
	}
	for _, bad := range notSequences() {
		for _, k := range []int64{1, 7, 0, 1001} {
			got, code := impl.RhoOf(bad, k)
			checkNumber(t, fmt.Sprintf("RhoOf(%q, %d)", bad, k), got, code, 0, impl.ErrInvalid)
		}
	}
}

// TestRhoOfLetters holds rho against the letters of sequences.
func TestRhoOfLetters(t *testing.T) {
	check := func(s impl.Sequence, k int) {
		want, wantCode := int64(rhoByHand(s, k)), int64(impl.ErrNone)
		if want == 0 {
			wantCode = impl.ErrNotFound
		}
		got, code := impl.RhoOf(s, int64(k))
		checkNumber(t, fmt.Sprintf("RhoOf(%q, %d)", s, k), got, code, want, wantCode)
	}
	for _, s := range sampleSequences("01*") {
		for _, k := range []int{1, 2, 3, 4, 5, 6, 12, 13} {
			check(s, k)
		}
	}
	for _, s := range longSequences() {
		for k := 1; k <= 1000; k += 1 + k/70 {
			check(s, k)
		}
		check(s, 1000)
	}
}

func TestInternalAddress(t *testing.T) {
	ones := strings.Repeat("1", 62)
	counted := []int64{}
	for k := range int64(64) {
		counted = append(counted, k+1)
	}
	far := []int64{1}
	for k := range int64(19) {
		far = append(far, 63*(k+1))
	}
	for _, c := range []struct {
		s    impl.Sequence
		want []int64
	}{
		{sequence("", "11*"), []int64{1, 3}}, {sequence("", "10*"), []int64{1, 2, 3}}, {sequence("", "*"), []int64{1}}, {sequence("", "1"), []int64{1}},
		{sequence("", "0"), []int64{1}}, {sequence("", "1*"), []int64{1, 2}}, {sequence("", "110*"), []int64{1, 3, 4}}, {sequence("", "101*"), []int64{1, 2, 4}},
		{sequence("", "10110*"), []int64{1, 2, 4, 5, 6}}, {sequence("", "*1"), []int64{1, 2}}, {sequence("", "011"), []int64{1, 2, 3}},
		{sequence("", "10"), []int64{1, 2}}, {sequence("", "110"), []int64{1, 3}}, {sequence("", "101"), []int64{1, 2, 4, 5, 7, 8, 10, 11, 13, 14, 16, 17, 19, 20, 22, 23, 25, 26, 28, 29}},
		{sequence("1", "10"), []int64{1, 3, 5, 7, 9, 11, 13, 15, 17, 19, 21, 23, 25, 27, 29, 31, 33, 35, 37, 39}},
		// The address ends with MaxAddress numbers, whether it has more or not.
		{sequence("", "1"+strings.Repeat("0", 17)+"*"), counted[:19]}, {sequence("", "1"+strings.Repeat("0", 18)+"*"), counted[:20]},
		{sequence("", "1"+strings.Repeat("0", 19)+"*"), counted[:20]}, {sequence("1", "0"), counted[:20]}, {sequence("", "1"+strings.Repeat("0", 62)+"*"), counted[:20]},
		{sequence("", ones+"1*"), []int64{1, 64}},
		// Its numbers can be greater than those that RhoOf takes.
		{sequence(ones+"0", "1"), far},
	} {
		got, code := impl.InternalAddress(c.s)
		checkNumbers(t, fmt.Sprintf("InternalAddress(%q)", c.s), got, code, c.want, impl.ErrNone)
	}
	for _, s := range append(append(sampleSequences("01*"), longSequences()...), notStarPeriodic()...) {
		got, code := impl.InternalAddress(s)
		checkNumbers(t, fmt.Sprintf("InternalAddress(%q)", s), got, code, rhoListByHand(s, 1, 20), impl.ErrNone)
	}
	for _, bad := range notSequences() {
		got, code := impl.InternalAddress(bad)
		checkNumbers(t, fmt.Sprintf("InternalAddress(%q)", bad), got, code, nil, impl.ErrInvalid)
	}
}

func TestInternalAddressIsNew(t *testing.T) {
	s := sequence("1", "0")
	first, _ := impl.InternalAddress(s)
	for i := range first {
		first[i] = -1
	}
	second, code := impl.InternalAddress(s)
	checkNumbers(t, "a second InternalAddress", second, code, rhoListByHand(s, 1, 20), impl.ErrNone)
}

func TestSequenceOfAddress(t *testing.T) {
	for _, c := range []struct {
		list []int64
		want string
	}{
		{[]int64{1}, "*"}, {[]int64{1, 2}, "1*"}, {[]int64{1, 3}, "11*"}, {[]int64{1, 2, 3}, "10*"}, {[]int64{1, 4}, "111*"},
		{[]int64{1, 3, 4}, "110*"}, {[]int64{1, 2, 4}, "101*"}, {[]int64{1, 2, 3, 4}, "100*"}, {[]int64{1, 2, 4, 5, 6}, "10110*"},
		{[]int64{1, 2, 6}, "10101*"}, {[]int64{1, 3, 6}, "11011*"}, {[]int64{1, 3, 5}, "1101*"}, {[]int64{1, 2, 5, 11}, "1010010100*"},
		{[]int64{1, 40}, strings.Repeat("1", 39) + "*"}, {[]int64{1, 39, 40}, strings.Repeat("1", 38) + "0*"},
		{[]int64{1, 2, 40}, strings.Repeat("10", 19) + "1*"}, {[]int64{1, 20, 40}, strings.Repeat("1", 19) + "0" + strings.Repeat("1", 19) + "*"},
		{[]int64{1, 2, 3, 4, 5, 6, 7, 8, 9, 10, 11, 12, 13, 14, 15, 16, 17, 18, 19, 20}, "1" + strings.Repeat("0", 18) + "*"},
		{[]int64{1, 2, 3, 4, 5, 6, 7, 8, 9, 10, 11, 12, 13, 14, 15, 16, 17, 18, 19, 40}, "1" + strings.Repeat("0", 18) + "1" + strings.Repeat("0", 18) + "1*"},
	} {
		got, code := impl.SequenceOfAddress(c.list)
		checkSequence(t, fmt.Sprintf("SequenceOfAddress(%v)", c.list), got, code, sequence("", c.want), impl.ErrNone)
		if !impl.IsSequence(got) {
			t.Errorf("SequenceOfAddress(%v) = %q is no sequence", c.list, got)
		}
	}
}

func TestErrorsOfSequenceOfAddress(t *testing.T) {
	twentyOne := []int64{}
	for k := range int64(21) {
		twentyOne = append(twentyOne, k+1)
	}
	for _, list := range [][]int64{
		nil, {}, {0}, {2}, {-1}, {3, 4}, {0, 1}, {1, 1}, {1, 0}, {1, 3, 3}, {1, 3, 2}, {1, 2, 3, 2, 5}, {1, 5, 4, 6}, {2, 3}, {-1, 1},
		{1, 41}, {1, 2, 41}, {1, 40, 41}, {41}, {1, 41, 40}, {1, -5}, {1, 1, 2}, {1, math.MaxInt64}, {1, math.MinInt64}, {math.MinInt64, 1}, {math.MaxInt64},
		{1, math.MaxInt64, 2}, {1, 2, math.MinInt64, 3}, twentyOne, append(twentyOne[:20:20], 40), append(twentyOne[:19:19], 41), make([]int64, 1000),
	} {
		got, code := impl.SequenceOfAddress(list)
		checkSequence(t, fmt.Sprintf("SequenceOfAddress(%v)", list), got, code, sequence("", ""), impl.ErrRange)
	}
}

func TestSequenceOfAddressLeavesItsList(t *testing.T) {
	for _, behind := range []int64{9, 0, -1} {
		whole := []int64{1, 3, 4, 7, behind, behind, 41}
		given := slices.Clone(whole)
		for n := range len(whole) + 1 {
			impl.SequenceOfAddress(whole[:n])
		}
		if !slices.Equal(whole, given) {
			t.Errorf("SequenceOfAddress changes %v to %v", given, whole)
		}
	}
}

func TestIsStarPeriodic(t *testing.T) {
	for n := 1; n <= 9; n++ {
		for _, s := range starSequences(n) {
			got, code := impl.IsStarPeriodic(s)
			checkAnswer(t, fmt.Sprintf("IsStarPeriodic(%q)", s), got, code, true, impl.ErrNone)
		}
	}
	for _, s := range []impl.Sequence{sequence("", "1"+strings.Repeat("0", 62)+"*"), sequence("", strings.Repeat("1", 63)+"*"), sequence("", "1"+strings.Repeat("0", 49)+"*")} {
		got, code := impl.IsStarPeriodic(s)
		checkAnswer(t, fmt.Sprintf("IsStarPeriodic(%q)", s), got, code, true, impl.ErrNone)
	}
	for _, s := range notStarPeriodic() {
		got, code := impl.IsStarPeriodic(s)
		checkAnswer(t, fmt.Sprintf("IsStarPeriodic(%q)", s), got, code, false, impl.ErrNone)
	}
	count := 0
	for _, s := range sampleSequences("01*") {
		if got, code := impl.IsStarPeriodic(s); got && code == impl.ErrNone {
			count++
		}
	}
	if count != 1+1+2+4 {
		t.Errorf("%d star-periodic sequences of at most four letters", count)
	}
	for _, bad := range notSequences() {
		got, code := impl.IsStarPeriodic(bad)
		checkAnswer(t, fmt.Sprintf("IsStarPeriodic(%q)", bad), got, code, false, impl.ErrInvalid)
	}
}

func TestFailsFor(t *testing.T) {
	failing := 0
	for n := 1; n <= 10; n++ {
		for _, s := range starSequences(n) {
			for m := 1; m < n; m++ {
				want := failsByHand(s, m)
				got, code := impl.FailsFor(s, int64(m))
				checkAnswer(t, fmt.Sprintf("FailsFor(%q, %d)", s, m), got, code, want, impl.ErrNone)
				if want {
					failing++
				}
			}
		}
	}
	if failing < 20 {
		t.Errorf("only %d samples fail", failing)
	}
	for m := int64(1); m <= 5; m++ {
		got, code := impl.FailsFor(sequence("", "10110*"), m)
		checkAnswer(t, fmt.Sprintf("FailsFor(10110*, %d)", m), got, code, m == 3, impl.ErrNone)
	}
}

// TestFailsForManyLetters looks at sequences with addresses of more than MaxAddress numbers, and
// with as many letters as a sequence has.
func TestFailsForManyLetters(t *testing.T) {
	for _, per := range []string{
		"1" + strings.Repeat("0", 62) + "*", strings.Repeat("1", 63) + "*", strings.Repeat("10", 31) + "1*", strings.Repeat("10110", 12) + "101*",
		strings.Repeat("110100", 10) + "10*", "1" + strings.Repeat("0", 30) + "1" + strings.Repeat("0", 30) + "1*", strings.Repeat("10011", 8) + "0*",
	} {
		s := sequence("", per)
		admissible := true
		for m := 1; m < len(per); m++ {
			want := failsByHand(s, m)
			admissible = admissible && !want
			got, code := impl.FailsFor(s, int64(m))
			checkAnswer(t, fmt.Sprintf("FailsFor(%q, %d)", s, m), got, code, want, impl.ErrNone)
		}
		got, code := impl.IsAdmissible(s)
		checkAnswer(t, fmt.Sprintf("IsAdmissible(%q)", s), got, code, admissible, impl.ErrNone)
	}
	got, code := impl.IsAdmissible(sequence("", "1"+strings.Repeat("0", 62)+"*"))
	checkAnswer(t, "IsAdmissible of 1, 62 times 0, and *", got, code, true, impl.ErrNone)
}

func TestErrorsOfFailsFor(t *testing.T) {
	long := sequence("", strings.Repeat("1", 63)+"*")
	for _, c := range []struct {
		s    impl.Sequence
		m    int64
		code int64
	}{
		{sequence("", "11*"), 0, impl.ErrRange}, {sequence("", "11*"), 1, impl.ErrNone}, {sequence("", "11*"), 2, impl.ErrNone}, {sequence("", "11*"), 3, impl.ErrRange},
		{sequence("", "11*"), -1, impl.ErrRange}, {sequence("", "11*"), math.MaxInt64, impl.ErrRange}, {sequence("", "11*"), math.MinInt64, impl.ErrRange},
		{sequence("", "1*"), 1, impl.ErrNone}, {sequence("", "1*"), 2, impl.ErrRange}, {long, 63, impl.ErrNone}, {long, 64, impl.ErrRange},
		{sequence("", "*"), 0, impl.ErrRange}, {sequence("", "*"), 1, impl.ErrRange},
	} {
		got, code := impl.FailsFor(c.s, c.m)
		checkAnswer(t, fmt.Sprintf("FailsFor(%q, %d)", c.s, c.m), got, code, false, c.code)
	}
	for _, m := range []int64{1, 2, 0, -1, 64, math.MaxInt64} {
		for _, s := range notStarPeriodic() {
			got, code := impl.FailsFor(s, m)
			checkAnswer(t, fmt.Sprintf("FailsFor(%q, %d)", s, m), got, code, false, impl.ErrState)
		}
		for _, bad := range notSequences() {
			got, code := impl.FailsFor(bad, m)
			checkAnswer(t, fmt.Sprintf("FailsFor(%q, %d)", bad, m), got, code, false, impl.ErrInvalid)
		}
	}
}

func TestIsAdmissible(t *testing.T) {
	for n := 1; n <= 10; n++ {
		for _, s := range starSequences(n) {
			want := true
			for m := 1; m < n; m++ {
				want = want && !failsByHand(s, m)
			}
			got, code := impl.IsAdmissible(s)
			checkAnswer(t, fmt.Sprintf("IsAdmissible(%q)", s), got, code, want, impl.ErrNone)
		}
	}
	for per, want := range map[string]bool{"*": true, "1*": true, "11*": true, "10*": true, "10110*": false, "101*": true, "10101*": true} {
		got, code := impl.IsAdmissible(sequence("", per))
		checkAnswer(t, fmt.Sprintf("IsAdmissible(%s)", per), got, code, want, impl.ErrNone)
	}
	for _, s := range notStarPeriodic() {
		got, code := impl.IsAdmissible(s)
		checkAnswer(t, fmt.Sprintf("IsAdmissible(%q)", s), got, code, false, impl.ErrState)
	}
	for _, bad := range notSequences() {
		got, code := impl.IsAdmissible(bad)
		checkAnswer(t, fmt.Sprintf("IsAdmissible(%q)", bad), got, code, false, impl.ErrInvalid)
	}
}

func checkWords(t *testing.T, n int64, want []string, wantCode int64) {
	t.Helper()
	got, code := impl.AdmissibleWords(n)
	if !slices.Equal(got, want) || code != wantCode {
		t.Errorf("AdmissibleWords(%d): got %v, %d; want %v, %d", n, got, code, want, wantCode)
	}
}

func TestAdmissibleWords(t *testing.T) {
	checkWords(t, 1, []string{"*"}, impl.ErrNone)
	checkWords(t, 2, []string{"1*"}, impl.ErrNone)
	checkWords(t, 3, []string{"10*", "11*"}, impl.ErrNone)
	checkWords(t, 4, []string{"100*", "101*", "110*", "111*"}, impl.ErrNone)
	for n := int64(1); n <= 10; n++ {
		want := []string{}
		for _, s := range starSequences(int(n)) {
			if admissible, _ := impl.IsAdmissible(s); admissible {
				want = append(want, s.Per)
			}
		}
		checkWords(t, n, want, impl.ErrNone)
	}
	for _, n := range []int64{0, -1, 11, 12, 64, math.MaxInt64, math.MinInt64} {
		checkWords(t, n, nil, impl.ErrRange)
	}
}

// TestAdmissibleWordsAreThoseOfAngles uses that the admissible sequences of a period are all
// kneading sequences of angles with the preperiod 0 and this period.
func TestAdmissibleWordsAreThoseOfAngles(t *testing.T) {
	for n := int64(1); n <= 10; n++ {
		want := []string{}
		for _, a := range kneadingAngles(n) {
			want = append(want, lettersOfOrbit(a, a, int(n)))
		}
		slices.Sort(want)
		checkWords(t, n, slices.Compact(want), impl.ErrNone)
	}
}

func TestAdmissibleWordsAreNew(t *testing.T) {
	first, _ := impl.AdmissibleWords(4)
	for i := range first {
		first[i] = ""
	}
	checkWords(t, 4, []string{"100*", "101*", "110*", "111*"}, impl.ErrNone)
}
