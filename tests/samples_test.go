package tests

import (
	"math"
	"slices"
	"strings"
	"testing"

	"loop.example/g01234/impl"
)

// angle writes an angle shortly; it is not checked, so that what is no angle can be written, too.
func angle(num, den int64) impl.Angle {
	return impl.Angle{Num: num, Den: den}
}

// sequence writes a sequence shortly; it is not checked either.
func sequence(pre, per string) impl.Sequence {
	return impl.Sequence{Pre: pre, Per: per}
}

// notAngles returns structs that are no angles, each for a reason of its own.
func notAngles() []impl.Angle {
	return []impl.Angle{
		angle(0, 0), angle(1, 0), angle(0, -1), angle(-1, -3), angle(1, -3),
		angle(-1, 3), angle(3, 3), angle(4, 3), angle(1, 1), angle(8191, 8191),
		angle(2, 6), angle(3, 6), angle(4, 6), angle(0, 2), angle(0, 8191),
		angle(1, 8192), angle(8191, 8192), angle(1, 8193), angle(0, 8192),
		angle(1, math.MaxInt64), angle(math.MaxInt64-1, math.MaxInt64),
		angle(math.MinInt64, math.MinInt64), angle(math.MinInt64, 7),
		angle(math.MaxInt64, 7), angle(1, math.MinInt64),
	}
}

// anglesUpTo returns all angles with a Den of at most n, found without the program.
func anglesUpTo(n int64) []impl.Angle {
	list := []impl.Angle{}
	for den := int64(1); den <= n; den++ {
		for num := range den {
			if divisorOf(num, den) == 1 {
				list = append(list, angle(num, den))
			}
		}
	}
	return list
}

// sampleAngles returns all angles with a small Den, and some of each size up to MaxDen.
func sampleAngles() []impl.Angle {
	list := anglesUpTo(96)
	for den := int64(97); den <= 8191; den += 13 {
		for _, num := range []int64{1, den / 3, den / 2, den - 1} {
			if divisorOf(num, den) == 1 {
				list = append(list, angle(num, den))
			}
		}
	}
	return append(list, angle(1, 8191), angle(8190, 8191), angle(1, 8190), angle(1, 4096), angle(4095, 4096))
}

func divisorOf(a, b int64) int64 {
	for b != 0 {
		a, b = b, a%b
	}
	return a
}

// reduced returns num/den, for a num of at least 0, as an angle, found without the program.
func reduced(num, den int64) impl.Angle {
	divisor := divisorOf(num%den, den)
	return angle(num%den/divisor, den/divisor)
}

// orbitByNumbers returns the preperiod and the period of num/den, found without the program: the
// remainders by den of num, 2 num, 4 num and so on are told by num alone.
func orbitByNumbers(num, den int64) (int64, int64) {
	place := map[int64]int64{}
	for k := int64(0); ; k++ {
		if first, met := place[num]; met {
			return first, k - first
		}
		place[num] = k
		num = 2 * num % den
	}
}

// notSequences returns structs that are no sequences, each for a reason of its own.
func notSequences() []impl.Sequence {
	zeros := strings.Repeat("0", 64)
	return []impl.Sequence{
		sequence("", ""), sequence("0", ""), sequence("1*", ""), sequence(zeros, ""),
		sequence("", "00"), sequence("", "11"), sequence("", "**"), sequence("", "0101"),
		sequence("", "1*1*1*"), sequence("", "011011"), sequence("1", "00"), sequence("0", "1010"),
		sequence("0", "0"), sequence("1", "01"), sequence("*", "0*"), sequence("01*", "1*"),
		sequence("", "2"), sequence("", "a"), sequence("", "0 1"), sequence("", "01\n"),
		sequence("2", "0"), sequence("0 ", "1"), sequence("(", "1"), sequence("0", "1)"),
		sequence("0a0", "1"), sequence("", "0a1"), sequence("é", "0"), sequence("", "1\xff"),
		sequence("/", "0"), sequence("", "+"), sequence("", ")"), sequence(":", "1"),
		sequence("", zeros+"1"), sequence(zeros, "1"), sequence("0", zeros[1:]+"1"),
		sequence(zeros+zeros, "1"), sequence("1", zeros+zeros+"1"), sequence("1", zeros),
	}
}

// words returns all words with the lengths from least to most of some letters.
func words(letters string, least, most int) []string {
	list := []string{}
	level := []string{""}
	for n := 0; n <= most; n++ {
		if n >= least {
			list = append(list, level...)
		}
		next := []string{}
		for _, word := range level {
			for _, letter := range letters {
				next = append(next, word+string(letter))
			}
		}
		level = next
	}
	return list
}

// isToldOnce reports whether words of letters are told as a sequence, found without the program.
func isToldOnce(pre, per string) bool {
	for n := 1; n < len(per); n++ {
		if strings.HasPrefix(strings.Repeat(per[:n], len(per)), per) && len(per)%n == 0 {
			return false
		}
	}
	return per != "" && (pre == "" || pre[len(pre)-1] != per[len(per)-1])
}

// sampleSequences returns all sequences of some letters with short words.
func sampleSequences(letters string) []impl.Sequence {
	list := []impl.Sequence{}
	for _, pre := range words(letters, 0, 3) {
		for _, per := range words(letters, 1, 4) {
			if isToldOnce(pre, per) {
				list = append(list, sequence(pre, per))
			}
		}
	}
	return list
}

// longSequences returns sequences with MaxOrbit letters.
func longSequences() []impl.Sequence {
	zeros := strings.Repeat("0", 63)
	return []impl.Sequence{
		sequence("", zeros+"1"), sequence(zeros, "1"), sequence("", zeros+"*"), sequence("1", zeros[1:]+"*"),
		sequence("1"+zeros[1:], "1"), sequence(zeros[:32], "1"+zeros[:30]+"1"),
	}
}

// letterByHand returns the letter with the number k of what pre and per tell.
func letterByHand(pre, per string, k int) string {
	return (pre + strings.Repeat(per, k+1))[k : k+1]
}

// lettersByHand returns the first n letters of a sequence.
func lettersByHand(s impl.Sequence, n int) string {
	return (s.Pre + strings.Repeat(s.Per, n))[:n]
}

// kneadingLetterByNumbers returns the letter of x for t, found without halves and arcs: twice x is
// held against t and t + 1.
func kneadingLetterByNumbers(x, t impl.Angle) string {
	twice, least, greatest := 2*x.Num*t.Den, t.Num*x.Den, (t.Num+t.Den)*x.Den
	switch {
	case twice == least || twice == greatest:
		return "*"
	case least < twice && twice < greatest:
		return "1"
	}
	return "0"
}

// rhoByHand returns rho of k by looking at one letter after the other, or 0 if there is none:
// behind its Pre a sequence is periodic, and so is what is found for all later letters.
func rhoByHand(s impl.Sequence, k int) int {
	last := k + len(s.Pre) + 2*len(s.Per)
	letters := lettersByHand(s, last)
	for j := k + 1; j <= last; j++ {
		if letters[j-1] != letters[j-k-1] {
			return j
		}
	}
	return 0
}

// rhoListByHand returns the first n numbers of the list that begins with k, in which each number is
// followed by rho of it.
func rhoListByHand(s impl.Sequence, k, n int) []int64 {
	list := []int64{}
	for ; k > 0 && len(list) < n; k = rhoByHand(s, k) {
		list = append(list, int64(k))
	}
	return list
}

// failsByHand reports whether a star-periodic sequence fails for m, condition by condition.
func failsByHand(s impl.Sequence, m int) bool {
	inAddress := slices.Contains(rhoListByHand(s, 1, 100), int64(m))
	divisorsStay := true
	for k := 1; k < m; k++ {
		if m%k == 0 && rhoByHand(s, k) > m {
			divisorsStay = false
		}
	}
	r := rhoByHand(s, m) % m
	if r == 0 {
		r = m
	}
	return !inAddress && divisorsStay && slices.Contains(rhoListByHand(s, r, 100), int64(m))
}

// starSequences returns all star-periodic sequences of the period n, in lexicographic order of
// their Pers.
func starSequences(n int) []impl.Sequence {
	if n == 1 {
		return []impl.Sequence{sequence("", "*")}
	}
	list := []impl.Sequence{}
	for _, word := range words("01", n-2, n-2) {
		list = append(list, sequence("", "1"+word+"*"))
	}
	return list
}

// notStarPeriodic returns sequences that are not star-periodic, each for a reason of its own.
func notStarPeriodic() []impl.Sequence {
	zeros := strings.Repeat("0", 62)
	return []impl.Sequence{
		sequence("", "1"), sequence("", "0"), sequence("", "10"), sequence("", "0*"), sequence("", "01*"),
		sequence("", "*1"), sequence("", "*0*"), sequence("", "1**"), sequence("", "1*1*1"), sequence("", "1*0*"),
		sequence("1", "*"), sequence("1", "0*"), sequence("0", "1*"), sequence("0", "11*"), sequence("*", "1"),
		sequence("11", "10*"), sequence("", "11*1"), sequence("", "0"+zeros+"*"), sequence("1", zeros+"*"),
		sequence("", "1*"+zeros[1:]+"*"), sequence("", "1"+zeros+"1"),
	}
}

// kneadingAngles returns all angles with the preperiod 0 and the period n, found without the
// program.
func kneadingAngles(n int64) []impl.Angle {
	list := []impl.Angle{}
	for num := range int64(1)<<n - 1 {
		if _, period := orbitByNumbers(num, 1<<n-1); period == n {
			list = append(list, reduced(num, 1<<n-1))
		}
	}
	return list
}

func checkAngle(t *testing.T, what string, got impl.Angle, code int64, want impl.Angle, wantCode int64) {
	t.Helper()
	if got != want || code != wantCode {
		t.Errorf("%s: got %v, %d; want %v, %d", what, got, code, want, wantCode)
	}
}

func checkAngles(t *testing.T, what string, got []impl.Angle, code int64, want []impl.Angle, wantCode int64) {
	t.Helper()
	if !slices.Equal(got, want) || code != wantCode {
		t.Errorf("%s: got %v, %d; want %v, %d", what, got, code, want, wantCode)
	}
}

func checkNumber(t *testing.T, what string, got int64, code int64, want int64, wantCode int64) {
	t.Helper()
	if got != want || code != wantCode {
		t.Errorf("%s: got %d, %d; want %d, %d", what, got, code, want, wantCode)
	}
}

func checkNumbers(t *testing.T, what string, got []int64, code int64, want []int64, wantCode int64) {
	t.Helper()
	if !slices.Equal(got, want) || code != wantCode {
		t.Errorf("%s: got %v, %d; want %v, %d", what, got, code, want, wantCode)
	}
}

func checkAnswer(t *testing.T, what string, got bool, code int64, want bool, wantCode int64) {
	t.Helper()
	if got != want || code != wantCode {
		t.Errorf("%s: got %v, %d; want %v, %d", what, got, code, want, wantCode)
	}
}

func checkText(t *testing.T, what string, got string, code int64, want string, wantCode int64) {
	t.Helper()
	if got != want || code != wantCode {
		t.Errorf("%s: got %q, %d; want %q, %d", what, got, code, want, wantCode)
	}
}

func checkSequence(t *testing.T, what string, got impl.Sequence, code int64, want impl.Sequence, wantCode int64) {
	t.Helper()
	if got != want || code != wantCode {
		t.Errorf("%s: got %q, %d; want %q, %d", what, got, code, want, wantCode)
	}
}
