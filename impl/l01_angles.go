package impl

import (
	"cmp"
	"iter"
	"slices"
	"strconv"
	"strings"
)

// Error codes of all chapters.
const (
	ErrNone = iota
	ErrInvalid
	ErrRange
	ErrLimit
	ErrNotFound
	ErrState
	ErrSyntax
)

// Limits of chapter 1.
const (
	MaxDen   = 8191
	MaxOrbit = 64
)

// Limits of the numbers that AngleOf and LetterAt take.
const (
	maxGiven  = 1000000000
	maxLetter = 1000000
)

// Angle is described in chapter 1.
type Angle struct {
	Num int64
	Den int64
}

// Sequence is described in chapter 1.
type Sequence struct {
	Pre string
	Per string
}

// IsAngle reports whether a is an angle.
func IsAngle(a Angle) bool {
	if a.Den < 1 || a.Den > MaxDen || a.Num < 0 || a.Num >= a.Den {
		return false
	}
	return commonDivisor(a.Num, a.Den) == 1
}

// AngleOf returns the angle num/den, for num in -1000000000..1000000000 and den in 1..1000000000,
// and ErrNone. (ErrInvalid is not returned.)
func AngleOf(num int64, den int64) (Angle, int64) {
	if num < -maxGiven || num > maxGiven || den < 1 || den > maxGiven {
		return Angle{}, ErrRange
	}
	return limitedAngle(reducedAngle(num, den))
}

// AddAngles returns the sum, and ErrNone.
func AddAngles(a Angle, b Angle) (Angle, int64) {
	if !areAngles(a, b) {
		return Angle{}, ErrInvalid
	}
	return limitedAngle(reducedAngle(a.Num*b.Den+b.Num*a.Den, a.Den*b.Den))
}

// DoubleAngle returns the double of a, and ErrNone.
func DoubleAngle(a Angle) (Angle, int64) {
	if !IsAngle(a) {
		return Angle{}, ErrInvalid
	}
	return doubled(a), ErrNone
}

// OrbitOf returns the orbit of a, and ErrNone.
func OrbitOf(a Angle) ([]Angle, int64) {
	orbit, _, code := orbitAndPreperiod(a)
	return orbit, code
}

// PeriodsOf returns the preperiod and the period of a, and ErrNone.
func PeriodsOf(a Angle) ([]int64, int64) {
	orbit, preperiod, code := orbitAndPreperiod(a)
	if code != ErrNone {
		return nil, code
	}
	return []int64{preperiod, int64(len(orbit)) - preperiod}, ErrNone
}

// HalvesOf returns both halves of a, the smaller one first, and ErrNone.
func HalvesOf(a Angle) ([]Angle, int64) {
	if !IsAngle(a) {
		return nil, ErrInvalid
	}
	lower, upper := bothHalves(a)
	if lower.Den > MaxDen || upper.Den > MaxDen {
		return nil, ErrLimit
	}
	return []Angle{lower, upper}, ErrNone
}

// IsWithin reports whether x is in the arc from a to b, and returns ErrNone. Errors: ErrState if a
// and b are equal.
func IsWithin(x Angle, a Angle, b Angle) (bool, int64) {
	if !areAngles(x, a, b) {
		return false, ErrInvalid
	}
	if a == b {
		return false, ErrState
	}
	return isInArc(x, a, b), ErrNone
}

// CyclicOrder returns the cyclic order of a, b and c, and ErrNone.
func CyclicOrder(a Angle, b Angle, c Angle) (int64, int64) {
	switch {
	case !areAngles(a, b, c):
		return 0, ErrInvalid
	case a == b || b == c || a == c:
		return 0, ErrNone
	case isInArc(b, a, c):
		return 1, ErrNone
	}
	return -1, ErrNone
}

// DistanceOf returns the distance of a and b as an angle, and ErrNone.
func DistanceOf(a Angle, b Angle) (Angle, int64) {
	if !areAngles(a, b) {
		return Angle{}, ErrInvalid
	}
	return limitedAngle(distanceBetween(a, b))
}

// SortAngles returns all angles of a list in ascending order, each once, and ErrNone.
func SortAngles(list []Angle) ([]Angle, int64) {
	if !areAngles(list...) {
		return nil, ErrInvalid
	}
	var sorted []Angle
	seen := map[Angle]bool{}
	for _, a := range list {
		if !seen[a] {
			seen[a] = true
			sorted = append(sorted, a)
		}
	}
	slices.SortFunc(sorted, compareAngles)
	return sorted, ErrNone
}

// ExpansionOf returns the expansion of a, and ErrNone.
func ExpansionOf(a Angle) (Sequence, int64) {
	return sequenceAlongOrbit(a, func(x Angle) byte {
		if 2*x.Num >= x.Den {
			return '1'
		}
		return '0'
	})
}

// AngleOfSequence returns the angle of s, and ErrNone. Errors: ErrState if s has a `*`.
func AngleOfSequence(s Sequence) (Angle, int64) {
	if !IsSequence(s) {
		return Angle{}, ErrInvalid
	}
	if strings.Contains(s.Pre, "*") || strings.Contains(s.Per, "*") {
		return Angle{}, ErrState
	}
	// Both words have at most 64 letters together, so the fraction fits into uint64. It is 1, a
	// whole turn, if all letters are 1.
	den := uint64(1)<<len(s.Per) - 1
	num := numberOf(s.Pre)*den + numberOf(s.Per)
	den <<= len(s.Pre)
	divisor := commonDivisor(num, den)
	if den/divisor > MaxDen {
		return Angle{}, ErrLimit
	}
	return reducedAngle(int64(num/divisor), int64(den/divisor)), ErrNone
}

// IsSequence reports whether s is a sequence.
func IsSequence(s Sequence) bool {
	if s.Per == "" || len(s.Pre)+len(s.Per) > MaxOrbit {
		return false
	}
	return hasOnlyLetters(s.Pre) && hasOnlyLetters(s.Per) && canonicalSequence(s.Pre, s.Per) == s
}

// SequenceOf returns the sequence with the letters of pre, and then those of per, again and again,
// and ErrNone. Errors: ErrInvalid if there are other bytes, or per is empty; ErrLimit if both have
// more than MaxOrbit letters together, as they are given.
func SequenceOf(pre string, per string) (Sequence, int64) {
	if per == "" || !hasOnlyLetters(pre) || !hasOnlyLetters(per) {
		return Sequence{}, ErrInvalid
	}
	if len(pre)+len(per) > MaxOrbit {
		return Sequence{}, ErrLimit
	}
	return canonicalSequence(pre, per), ErrNone
}

// LetterAt returns the letter of s with the number k, the first one having the number 0, for k in
// 0..1000000, and ErrNone.
func LetterAt(s Sequence, k int64) (string, int64) {
	if !IsSequence(s) {
		return "", ErrInvalid
	}
	if k < 0 || k > maxLetter {
		return "", ErrRange
	}
	return string(letterByNumber(s, k)), ErrNone
}

// ShiftSequence returns the shifted sequence, and ErrNone.
func ShiftSequence(s Sequence) (Sequence, int64) {
	if !IsSequence(s) {
		return Sequence{}, ErrInvalid
	}
	if s.Pre != "" {
		return canonicalSequence(s.Pre[1:], s.Per), ErrNone
	}
	return canonicalSequence("", s.Per[1:]+s.Per[:1]), ErrNone
}

// SequenceText returns the text of s, and ErrNone.
func SequenceText(s Sequence) (string, int64) {
	if !IsSequence(s) {
		return "", ErrInvalid
	}
	return s.Pre + "(" + s.Per + ")", ErrNone
}

// ParseSequence returns the sequence with a text, and ErrNone. Errors: ErrSyntax if there is none.
// (No other errors are returned.)
func ParseSequence(text string) (Sequence, int64) {
	pre, rest, opened := strings.Cut(text, "(")
	per, closed := strings.CutSuffix(rest, ")")
	if !opened || !closed || !IsSequence(Sequence{pre, per}) {
		return Sequence{}, ErrSyntax
	}
	return canonicalSequence(pre, per), ErrNone
}

// AngleText returns the text of a, and ErrNone.
func AngleText(a Angle) (string, int64) {
	if !IsAngle(a) {
		return "", ErrInvalid
	}
	return strconv.FormatInt(a.Num, 10) + "/" + strconv.FormatInt(a.Den, 10), ErrNone
}

// ParseAngle returns the angle with a text, and ErrNone. Errors: ErrSyntax if there is none. (No
// other errors are returned.)
func ParseAngle(text string) (Angle, int64) {
	before, behind, _ := strings.Cut(text, "/")
	num, numErr := strconv.ParseInt(before, 10, 64)
	den, denErr := strconv.ParseInt(behind, 10, 64)
	if numErr != nil || denErr != nil {
		return Angle{}, ErrSyntax
	}
	// Signs and leading zeros can be read as numbers, but no angle is written with them.
	a := Angle{num, den}
	if written, code := AngleText(a); code != ErrNone || written != text {
		return Angle{}, ErrSyntax
	}
	return a, ErrNone
}

// areAngles reports whether all of a list are angles.
func areAngles(list ...Angle) bool {
	for _, a := range list {
		if !IsAngle(a) {
			return false
		}
	}
	return true
}

// reducedAngle returns num/den, taken into a turn and without a common divisor, for den of at
// least 1. It is no angle if its Den is too great.
func reducedAngle(num int64, den int64) Angle {
	num %= den
	if num < 0 {
		num += den
	}
	divisor := commonDivisor(num, den)
	return Angle{num / divisor, den / divisor}
}

// limitedAngle returns a reduced angle, or ErrLimit if its Den is too great.
func limitedAngle(a Angle) (Angle, int64) {
	if a.Den > MaxDen {
		return Angle{}, ErrLimit
	}
	return a, ErrNone
}

// commonDivisor returns the greatest common divisor of two numbers that are not both 0.
func commonDivisor[T int64 | uint64](a T, b T) T {
	for b != 0 {
		a, b = b, a%b
	}
	return a
}

// compareAngles orders angles by their sizes.
func compareAngles(a Angle, b Angle) int {
	return cmp.Compare(a.Num*b.Den, b.Num*a.Den)
}

// distanceBetween returns the distance of two angles. It is no angle if its Den is too great.
func distanceBetween(a Angle, b Angle) Angle {
	return slices.MinFunc([]Angle{wayForward(a, b), wayForward(b, a)}, compareAngles)
}

// wayForward returns the part of a turn from a forward to b. It is no angle if its Den is too great.
func wayForward(a Angle, b Angle) Angle {
	return reducedAngle(b.Num*a.Den-a.Num*b.Den, a.Den*b.Den)
}

// isInArc reports whether x is in the arc from a to b. For equal angles a and b, all others are.
func isInArc(x Angle, a Angle, b Angle) bool {
	behindA, aheadOfB := compareAngles(a, x) < 0, compareAngles(x, b) < 0
	if compareAngles(a, b) < 0 {
		return behindA && aheadOfB
	}
	return behindA || aheadOfB
}

// doubled returns the double of an angle.
func doubled(a Angle) Angle {
	return reducedAngle(2*a.Num, a.Den)
}

// bothHalves returns the halves of an angle, the smaller one first. They are no angles if their Den
// is too great.
func bothHalves(a Angle) (Angle, Angle) {
	return reducedAngle(a.Num, 2*a.Den), reducedAngle(a.Num+a.Den, 2*a.Den)
}

// doublings gives out a, its double, the double of that, and so on, without an end.
func doublings(a Angle) iter.Seq[Angle] {
	return func(yield func(Angle) bool) {
		for x := a; yield(x); {
			x = doubled(x)
		}
	}
}

// orbitAndPreperiod returns the orbit of a, its preperiod, and ErrNone, or the errors of OrbitOf.
func orbitAndPreperiod(a Angle) ([]Angle, int64, int64) {
	if !IsAngle(a) {
		return nil, 0, ErrInvalid
	}
	var orbit []Angle
	var preperiod int64
	place := map[Angle]int64{}
	for x := range doublings(a) {
		if first, met := place[x]; met {
			preperiod = first
			break
		}
		if len(orbit) == MaxOrbit {
			return nil, 0, ErrLimit
		}
		place[x] = int64(len(orbit))
		orbit = append(orbit, x)
	}
	return orbit, preperiod, ErrNone
}

// sequenceAlongOrbit returns the sequence of the letters of a, its double, the double of that, and
// so on, and ErrNone, or the errors of OrbitOf.
func sequenceAlongOrbit(a Angle, letterOf func(Angle) byte) (Sequence, int64) {
	orbit, preperiod, code := orbitAndPreperiod(a)
	if code != ErrNone {
		return Sequence{}, code
	}
	letters := make([]byte, len(orbit))
	for i, x := range orbit {
		letters[i] = letterOf(x)
	}
	return canonicalSequence(string(letters[:preperiod]), string(letters[preperiod:])), ErrNone
}

// letterByNumber returns the letter of a sequence with the number k, counted from 0.
func letterByNumber(s Sequence, k int64) byte {
	if k < int64(len(s.Pre)) {
		return s.Pre[k]
	}
	return s.Per[(k-int64(len(s.Pre)))%int64(len(s.Per))]
}

// hasOnlyLetters reports whether all bytes of a word are letters of sequences.
func hasOnlyLetters(word string) bool {
	return strings.Trim(word, "01*") == ""
}

// canonicalSequence returns the sequence of the letters of pre, and then those of per, again and
// again, in the one way in which it is told; per is not empty.
func canonicalSequence(pre string, per string) Sequence {
	per = shortestPeriod(per)
	last := len(per) - 1
	for pre != "" && pre[len(pre)-1] == per[last] {
		pre, per = pre[:len(pre)-1], per[last:]+per[:last]
	}
	// Parts of a text would keep the memory of the whole text in use.
	return Sequence{strings.Clone(pre), strings.Clone(per)}
}

// shortestPeriod returns the shortest word that gives word if it is taken several times.
func shortestPeriod(word string) string {
	for n := 1; n < len(word); n++ {
		if len(word)%n == 0 && strings.Repeat(word[:n], len(word)/n) == word {
			return word[:n]
		}
	}
	return word
}

// numberOf returns the number that has the letters of a word, 0 and 1, as binary digits.
func numberOf(word string) uint64 {
	var number uint64
	for _, letter := range []byte(word) {
		number = 2*number + uint64(letter-'0')
	}
	return number
}
