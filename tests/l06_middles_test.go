package tests

import (
	"fmt"
	"slices"
	"strings"
	"testing"

	"loop.example/g01234/impl"
)

func TestConstantsOfChapter6(t *testing.T) {
	if impl.MaxTree != 8 || impl.MaxSteps != 600 {
		t.Errorf("got %d, %d", impl.MaxTree, impl.MaxSteps)
	}
}

// periodic writes a sequence without a Pre shortly.
func periodic(per string) impl.Sequence {
	return sequence("", per)
}

// longStar returns star-periodic sequences of great periods, up to MaxOrbit.
func longStar() []impl.Sequence {
	return []impl.Sequence{
		periodic("1" + strings.Repeat("0", 62) + "*"), periodic(strings.Repeat("1", 63) + "*"), periodic(strings.Repeat("1", 62) + "*"),
		periodic(strings.Repeat("10", 20) + "*"), periodic("1" + strings.Repeat("001", 16) + "*"), periodic(strings.Repeat("1", 8) + "*"),
	}
}

func TestIsPointOf(t *testing.T) {
	for _, c := range []struct {
		v, s impl.Sequence
		want bool
	}{
		{periodic("11*"), periodic("1"), true}, {periodic("11*"), periodic("0"), true}, {periodic("11*"), sequence("0", "1"), true}, {periodic("11*"), sequence("1010", "011"), true},
		{periodic("11*"), periodic("11*"), true}, {periodic("11*"), periodic("1*1"), true}, {periodic("11*"), periodic("*11"), true},
		{periodic("11*"), sequence("0", "11*"), true}, {periodic("11*"), sequence("1", "11*"), true}, {periodic("11*"), sequence("0", "1*1"), true}, {periodic("11*"), sequence("1010", "*11"), true},
		// In the Per, something else follows the `*`.
		{periodic("11*"), periodic("*"), false}, {periodic("11*"), periodic("1*"), false}, {periodic("11*"), periodic("10*"), false}, {periodic("11*"), periodic("111*"), false}, {periodic("11*"), periodic("11*1*"), false},
		{periodic("11*"), sequence("11", "01*"), false}, {periodic("11*"), periodic("*1"), false}, {periodic("11*"), periodic("11*0"), false}, {periodic("11*"), sequence("0", "*"), false},
		// In the Pre, too, also if it begins with the letters of v, or has all of them.
		{periodic("11*"), sequence("*", "1"), false}, {periodic("11*"), sequence("0*", "1"), false}, {periodic("11*"), sequence("*11", "1"), false}, {periodic("11*"), sequence("*11", "0"), false},
		{periodic("11*"), sequence("*11*0", "1"), false}, {periodic("11*"), sequence("*11*1", "0"), false}, {periodic("11*"), sequence("11*", "0"), false}, {periodic("11*"), sequence("*0", "11*"), false},
		{periodic("11*"), sequence("*11*", "1"), false}, {periodic("11*"), sequence("*1", "11*"), false}, {periodic("11*"), sequence("*0", "*11"), false},
		{periodic("1*"), sequence("*0", "1*"), false}, {periodic("1*"), sequence("**", "1*"), false}, {periodic("1*"), sequence("*", "*1"), false}, {periodic("1*"), sequence("00", "1*"), true}, {periodic("1*"), periodic("*1"), true},
		// With the period 1, all letters behind a `*` are `*`.
		{periodic("*"), periodic("*"), true}, {periodic("*"), sequence("0", "*"), true}, {periodic("*"), sequence("0110", "*"), true}, {periodic("*"), periodic("01"), true}, {periodic("*"), periodic("1*"), false}, {periodic("*"), sequence("*", "1"), false},
		{periodic("*"), sequence(strings.Repeat("0", 63), "*"), true}, {periodic("*"), sequence(strings.Repeat("*", 63), "1"), false}, {longStar()[0], longStar()[0], true}, {longStar()[0], longStar()[1], false},
		{longStar()[0], periodic("*1" + strings.Repeat("0", 62)), true}, {longStar()[0], periodic("*1" + strings.Repeat("0", 61) + "1"), false}, {longStar()[2], sequence("0", longStar()[2].Per), true},
	} {
		if c.want && !impl.IsSequence(c.s) {
			t.Errorf("%q is no sequence", c.s)
		}
		if !impl.IsSequence(c.s) {
			continue
		}
		got, code := impl.IsPointOf(c.v, c.s)
		checkAnswer(t, fmt.Sprintf("IsPointOf(%q, %q)", c.v, c.s), got, code, c.want, impl.ErrNone)
	}
}

func TestPointsByHand(t *testing.T) {
	count := map[bool]int{}
	for n := 1; n <= 5; n++ {
		for _, v := range starSequences(n) {
			for _, s := range slices.Concat(sampleSequences("01*"), longSequences(), starSequences(n)) {
				got, code := impl.IsPointOf(v, s)
				checkAnswer(t, fmt.Sprintf("IsPointOf(%q, %q)", v, s), got, code, isPointByHand(v, s), impl.ErrNone)
				if got && strings.Contains(text(s), "*") {
					count[s.Pre == ""]++
				}
			}
		}
	}
	if count[true] < 30 || count[false] < 30 {
		t.Errorf("only %v points with a `*` are among the samples", count)
	}
}

func TestOrbitPoints(t *testing.T) {
	for _, c := range []struct {
		v    string
		want []impl.Sequence
	}{
		{"*", []impl.Sequence{periodic("*")}}, {"1*", []impl.Sequence{periodic("1*"), periodic("*1")}}, {"10*", []impl.Sequence{periodic("10*"), periodic("0*1"), periodic("*10")}},
		{"11*", []impl.Sequence{periodic("11*"), periodic("1*1"), periodic("*11")}}, {"10110*", []impl.Sequence{periodic("10110*"), periodic("0110*1"), periodic("110*10"), periodic("10*101"), periodic("0*1011"), periodic("*10110")}},
	} {
		got, code := impl.OrbitPoints(periodic(c.v))
		checkSequences(t, fmt.Sprintf("OrbitPoints(%q)", c.v), got, code, c.want, impl.ErrNone)
	}
	list := longStar()
	for n := 1; n <= 9; n++ {
		list = append(list, starSequences(n)...)
	}
	for _, v := range list {
		want := []impl.Sequence{}
		for k := range v.Per {
			want = append(want, periodic(lettersByHand(v, 2*len(v.Per))[k:k+len(v.Per)]))
		}
		for range 2 {
			got, code := impl.OrbitPoints(v)
			checkSequences(t, fmt.Sprintf("OrbitPoints(%q)", v), got, code, want, impl.ErrNone)
			overwrite(got, periodic("0"))
		}
		for _, s := range want {
			is, code := impl.IsPointOf(v, s)
			checkAnswer(t, fmt.Sprintf("IsPointOf(%q, %q)", v, s), is, code, true, impl.ErrNone)
		}
	}
	for _, v := range notStarPeriodic() {
		got, code := impl.OrbitPoints(v)
		checkSequences(t, fmt.Sprintf("OrbitPoints(%q)", v), got, code, nil, impl.ErrState)
	}
	for _, bad := range notSequences() {
		got, code := impl.OrbitPoints(bad)
		checkSequences(t, fmt.Sprintf("OrbitPoints(%q)", bad), got, code, nil, impl.ErrInvalid)
	}
}

func TestErrorsOfIsPointOf(t *testing.T) {
	for _, bad := range notSequences() {
		for _, s := range append(notStarPeriodic(), bad, periodic("11*"), periodic("1")) {
			got, code := impl.IsPointOf(bad, s)
			checkAnswer(t, fmt.Sprintf("IsPointOf(%q, %q)", bad, s), got, code, false, impl.ErrInvalid)
			got, code = impl.IsPointOf(s, bad)
			checkAnswer(t, fmt.Sprintf("IsPointOf(%q, %q)", s, bad), got, code, false, impl.ErrInvalid)
		}
	}
	for _, v := range notStarPeriodic() {
		for _, s := range []impl.Sequence{v, periodic("0"), periodic("11*"), sequence("*", "1")} {
			got, code := impl.IsPointOf(v, s)
			checkAnswer(t, fmt.Sprintf("IsPointOf(%q, %q)", v, s), got, code, false, impl.ErrState)
		}
	}
}

func TestMiddleOf(t *testing.T) {
	for _, c := range []struct {
		v, s, t, u, want impl.Sequence
	}{
		// The points come back to those of an earlier step: of the first one, or of a later one.
		{periodic("11*"), periodic("11*"), periodic("1*1"), periodic("*11"), periodic("1")}, {periodic("111*"), periodic("111*"), periodic("1*11"), periodic("*111"), periodic("1")},
		{periodic("1*"), periodic("1*"), periodic("*1"), periodic("1"), periodic("1")}, {periodic("1*"), periodic("0"), periodic("1"), sequence("0", "1"), sequence("0", "1")},
		{periodic("10110*"), periodic("10110*"), periodic("10*101"), periodic("*10110"), periodic("101")}, {periodic("1010*"), periodic("10*10"), periodic("1010*"), periodic("*1010"), periodic("10")},
		{periodic("110*"), periodic("110*"), periodic("10*1"), periodic("*110"), periodic("1")}, {periodic("1100001*"), periodic("001*1100"), periodic("0001*110"), periodic("01*11000"), sequence("00", "1")},
		// A first letter is `*`, and the two others are different: at once, or later.
		{periodic("10*"), periodic("10*"), periodic("0*1"), periodic("*10"), periodic("*10")}, {periodic("1*"), periodic("0"), periodic("1"), periodic("*1"), periodic("*1")}, {periodic("*"), periodic("0"), periodic("1"), periodic("*"), periodic("*")},
		{periodic("1*"), sequence("0", "1"), sequence("01", "0"), periodic("1"), sequence("0", "1*")}, {periodic("*"), periodic("*"), periodic("0"), sequence("0", "1"), sequence("0", "*")}, {periodic("*"), periodic("1"), periodic("0"), sequence("00", "1"), sequence("00", "*")},
		// A first letter is `*`, and the two others are equal: they stay, and v follows the `*`.
		{periodic("*"), periodic("*"), sequence("0", "*"), periodic("0"), sequence("0", "*")}, {periodic("1*"), periodic("*1"), sequence("0", "1*"), periodic("0"), sequence("0", "1*")}, {periodic("1*"), periodic("*1"), sequence("1", "10"), sequence("1", "0"), sequence("1", "1*")},
		// Two of the three are equal later, as two of them have v behind their letters, or as the one that differs is replaced by it.
		{periodic("1*"), sequence("0", "1*"), periodic("0"), periodic("1"), sequence("0", "1*")}, {periodic("11*"), sequence("00", "11*"), periodic("0"), sequence("01", "0"), sequence("00", "11*")}, {periodic("11*"), sequence("1", "11*"), periodic("*11"), periodic("1"), sequence("1", "11*")},
		// All first letters are equal.
		{periodic("*"), sequence("0", "*"), periodic("0"), sequence("0", "1"), sequence("0", "*")}, {periodic("*"), periodic("01"), sequence("0", "1"), sequence("01", "*"), sequence("01", "*")},
	} {
		got, code := impl.MiddleOf(c.v, c.s, c.t, c.u)
		checkSequence(t, fmt.Sprintf("MiddleOf(%q, %q, %q, %q)", c.v, c.s, c.t, c.u), got, code, c.want, impl.ErrNone)
		if hand, code := middleByHand(c.v, c.s, c.t, c.u); hand != c.want || code != impl.ErrNone {
			t.Errorf("by hand, the middle of %q, %q, %q for %q is %q, %d", c.s, c.t, c.u, c.v, hand, code)
		}
	}
}

// zeros returns the letter 0 several times.
func zeros(n int) string {
	return strings.Repeat("0", n)
}

// TestLimitsOfMiddles asks for middles with MaxOrbit letters, and with one more.
func TestLimitsOfMiddles(t *testing.T) {
	dots := strings.Repeat("01", 32)
	for _, c := range []struct {
		v, s, t, u, want impl.Sequence
		code             int64
	}{
		{periodic("*"), sequence(zeros(63), "*"), periodic("0"), sequence(zeros(63), "1"), sequence(zeros(63), "*"), impl.ErrNone}, {periodic("*"), periodic("1"), periodic("0"), sequence(zeros(63), "1"), sequence(zeros(63), "*"), impl.ErrNone},
		{periodic("*"), periodic("1"), periodic("01"), periodic(dots[:63]), sequence(dots[:63], "*"), impl.ErrNone}, {periodic("*"), periodic("1"), periodic("01"), sequence("0", dots[1:64]), impl.Sequence{}, impl.ErrLimit},
		{periodic("1*"), periodic(zeros(62) + "1"), sequence(zeros(61), "*1"), periodic("0"), sequence(zeros(62), "1*"), impl.ErrNone}, {periodic("1*"), periodic(zeros(63) + "1"), sequence(zeros(62), "*1"), periodic("0"), impl.Sequence{}, impl.ErrLimit},
		{periodic("*"), sequence(zeros(63), "1"), sequence(zeros(62), "1"), periodic("0"), sequence(zeros(63), "*"), impl.ErrNone},
	} {
		if hand, code := middleByHand(c.v, c.s, c.t, c.u); hand != c.want || code != c.code {
			t.Errorf("by hand, the middle of %q, %q, %q for %q is %q, %d", c.s, c.t, c.u, c.v, hand, code)
		}
		checkMiddles(t, c.v, [3]impl.Sequence{c.s, c.t, c.u}, c.want, c.code)
	}
}

// checkMiddles checks the middle of three points in all six orders, and which of them is between the
// two others.
func checkMiddles(t *testing.T, v impl.Sequence, points [3]impl.Sequence, want impl.Sequence, wantCode int64) {
	t.Helper()
	for _, order := range [][3]int{{0, 1, 2}, {0, 2, 1}, {1, 0, 2}, {1, 2, 0}, {2, 0, 1}, {2, 1, 0}} {
		a, b, c := points[order[0]], points[order[1]], points[order[2]]
		got, code := impl.MiddleOf(v, a, b, c)
		checkSequence(t, fmt.Sprintf("MiddleOf(%q, %q, %q, %q)", v, a, b, c), got, code, want, wantCode)
		is, code := impl.IsBetween(v, a, b, c)
		checkAnswer(t, fmt.Sprintf("IsBetween(%q, %q, %q, %q)", v, a, b, c), is, code, b == want && wantCode == impl.ErrNone, wantCode)
	}
}

// TestManySteps asks for middles that are found after more steps than most: for one of those with at
// most MaxOrbit letters after 310 of them. (No points are known that need more than MaxSteps.)
func TestManySteps(t *testing.T) {
	ones := strings.Repeat("1", 64)
	v := periodic(strings.Repeat("101", 20) + "110*")
	for _, c := range []struct {
		v, s, t, u impl.Sequence
		steps      int
		code       int64
	}{
		{v, v, periodic(strings.Repeat("110", 21) + "1"), sequence("1101101100", "001011011100111111100111100100111011101110100111"), 310, impl.ErrNone},
		// The letters between two steps with the same points are more than MaxOrbit.
		{periodic("1110" + ones[:55] + "01*"), periodic("01101100111111011110101011001101010101100110011000110000101100"), sequence("0110111011", ones[:53]+"0"), sequence("0010010111000010", "00000000001011010100000000001010110101001"), 340, impl.ErrLimit},
		{periodic("100" + ones[:55] + "01100*"), periodic("100" + ones[:55] + "01100*"), periodic("0101111011011111001111100111001101111001110011010001001010100010"), sequence("100"+ones[:15], ones[:40]+"01100"), 329, impl.ErrLimit},
		{periodic("100110101001001010010110010111001110110100101111001010010101100*"), periodic("100110101001001010010110010111001110110100101111001010010101100*"), periodic("010100100101001011001011100111011010010111100101001010110010011"), sequence("0010110", "101000000011000000011000010010001000010100011101000111"), 303, impl.ErrLimit},
	} {
		for _, s := range []impl.Sequence{c.v, c.s, c.t, c.u} {
			if !impl.IsSequence(s) || !isPointByHand(c.v, s) {
				t.Fatalf("%q is no point of %q", s, c.v)
			}
		}
		_, steps := middleLettersByHand(c.v, c.s, c.t, c.u)
		want, code := middleByHand(c.v, c.s, c.t, c.u)
		if steps != c.steps || code != c.code {
			t.Errorf("the middle of %q, %q, %q for %q: %d steps, code %d", c.s, c.t, c.u, c.v, steps, code)
		}
		checkMiddles(t, c.v, [3]impl.Sequence{c.s, c.t, c.u}, want, code)
	}
}

// TestMiddlesOfSmallPoints holds the middles of all three of some small points against those found
// without the program.
func TestMiddlesOfSmallPoints(t *testing.T) {
	kinds := map[string]int{}
	for n := 1; n <= 4; n++ {
		for _, v := range starSequences(n) {
			points := []impl.Sequence{}
			for _, s := range sampleSequences("01*") {
				if isPointByHand(v, s) && (len(s.Pre)+len(s.Per) <= 3 || s.Pre == "" && strings.Contains(s.Per, "*")) {
					points = append(points, s)
				}
			}
			for i, a := range points {
				for j, b := range points[:i] {
					for _, c := range points[:j] {
						want, wantCode := middleByHand(v, a, b, c)
						got, code := impl.MiddleOf(v, c, a, b)
						checkSequence(t, fmt.Sprintf("MiddleOf(%q, %q, %q, %q)", v, c, a, b), got, code, want, wantCode)
						is, code := impl.IsBetween(v, c, a, b)
						checkAnswer(t, fmt.Sprintf("IsBetween(%q, %q, %q, %q)", v, c, a, b), is, code, a == want, wantCode)
						switch {
						case want == a || want == b || want == c:
							kinds["one of the three"]++
						case strings.Contains(want.Per, "*"):
							kinds["a branch point with `*`"]++
						default:
							kinds["a branch point"]++
						}
					}
				}
			}
		}
	}
	if len(kinds) != 3 || kinds["a branch point"] < 1000 || kinds["a branch point with `*`"] < 1000 || kinds["one of the three"] < 1000 {
		t.Errorf("the middles are %v", kinds)
	}
}

// largeTriods returns star-periodic sequences with three of their points each, with up to MaxOrbit
// letters. In some, two or all three points begin alike, so that they need more steps.
func largeTriods() [][4]impl.Sequence {
	list := [][4]impl.Sequence{}
	stars := longStar()
	for chunk := range slices.Chunk(lotWords(4000, 16, 31), 5) {
		v := periodic("1" + chunk[0] + chunk[4][:len(list)%16] + "*")
		if len(list)%7 == 0 {
			v = stars[len(list)/7%len(stars)]
		}
		turn := len(chunk[1]) % len(v.Per)
		starts := [][3]string{{chunk[1], chunk[2], chunk[3]}, {chunk[1], chunk[1], chunk[2]}, {chunk[1], chunk[1], chunk[1]}}[len(list)%3]
		triod := [4]impl.Sequence{v}
		triod[1], _ = impl.SequenceOf(starts[0], chunk[3])
		triod[2], _ = impl.SequenceOf(starts[1], chunk[4])
		triod[3], _ = impl.SequenceOf(starts[2], chunk[2])
		if len(list)%4 == 0 {
			triod[3] = periodic(v.Per[turn:] + v.Per[:turn])
		}
		if triod[1] != triod[2] && triod[2] != triod[3] && triod[1] != triod[3] {
			list = append(list, triod)
		}
	}
	return list
}

func TestMiddlesOfLargePoints(t *testing.T) {
	codes := map[int64]int{}
	for _, c := range largeTriods() {
		want, code := middleByHand(c[0], c[1], c[2], c[3])
		checkMiddles(t, c[0], [3]impl.Sequence{c[1], c[2], c[3]}, want, code)
		codes[code]++
	}
	// Orbit points of a great period.
	for _, v := range append(longStar(), periodic("1"+lotWords(1, 60, 60)[0]+"*")) {
		n := len(v.Per)
		for k := 1; k+2 < n; k += 5 {
			points := [3]impl.Sequence{v, periodic(v.Per[k:] + v.Per[:k]), periodic(v.Per[k+2:] + v.Per[:k+2])}
			want, code := middleByHand(v, points[0], points[1], points[2])
			checkMiddles(t, v, points, want, code)
			codes[code]++
		}
	}
	if codes[impl.ErrNone] < 800 || codes[impl.ErrLimit] < 3 {
		t.Errorf("the codes are %v", codes)
	}
}

// checkNoMiddle checks that both functions return a code.
func checkNoMiddle(t *testing.T, v, a, b, c impl.Sequence, want int64) {
	t.Helper()
	got, code := impl.MiddleOf(v, a, b, c)
	checkSequence(t, fmt.Sprintf("MiddleOf(%q, %q, %q, %q)", v, a, b, c), got, code, impl.Sequence{}, want)
	is, code := impl.IsBetween(v, a, b, c)
	checkAnswer(t, fmt.Sprintf("IsBetween(%q, %q, %q, %q)", v, a, b, c), is, code, false, want)
}

func TestErrorsOfMiddleOf(t *testing.T) {
	v, a, b, c := periodic("11*"), periodic("1*1"), periodic("*11"), periodic("0")
	for _, bad := range notSequences() {
		checkNoMiddle(t, bad, a, b, c, impl.ErrInvalid)
		checkNoMiddle(t, v, bad, b, c, impl.ErrInvalid)
		checkNoMiddle(t, v, a, bad, c, impl.ErrInvalid)
		checkNoMiddle(t, v, a, b, bad, impl.ErrInvalid)
		// Ahead of a v that is not star-periodic, of others that are no points, and of equal ones.
		checkNoMiddle(t, periodic("0"), a, a, bad, impl.ErrInvalid)
		checkNoMiddle(t, v, bad, bad, bad, impl.ErrInvalid)
		checkNoMiddle(t, v, sequence("*", "1"), sequence("*", "1"), bad, impl.ErrInvalid)
	}
	for _, notStar := range notStarPeriodic() {
		checkNoMiddle(t, notStar, periodic("0"), periodic("1"), periodic("01"), impl.ErrState)
		checkNoMiddle(t, notStar, notStar, periodic("1"), periodic("01"), impl.ErrState)
		checkNoMiddle(t, notStar, a, b, c, impl.ErrState)
	}
	for _, other := range []impl.Sequence{periodic("*"), periodic("1*"), periodic("10*"), sequence("*", "1"), sequence("11*", "0"), sequence("0*0", "1"), periodic("*111")} {
		if isPointByHand(v, other) {
			t.Errorf("%q is a point of %q", other, v)
		}
		checkNoMiddle(t, v, other, b, c, impl.ErrState)
		checkNoMiddle(t, v, a, other, c, impl.ErrState)
		checkNoMiddle(t, v, a, b, other, impl.ErrState)
	}
	for _, s := range []impl.Sequence{a, b, c, v, sequence("0", "1")} {
		for _, other := range []impl.Sequence{a, b, c, v} {
			checkNoMiddle(t, v, s, s, other, impl.ErrState)
			checkNoMiddle(t, v, s, other, s, impl.ErrState)
			checkNoMiddle(t, v, other, s, s, impl.ErrState)
		}
	}
	// No limit is passed where the points are equal, or none, and the period of v has none of its own.
	long := periodic(strings.Repeat("1", 63) + "*")
	checkNoMiddle(t, periodic("*"), periodic("1"), periodic("01"), periodic("1*"), impl.ErrState)
	checkNoMiddle(t, long, long, long, periodic("1"), impl.ErrState)
	checkMiddles(t, long, [3]impl.Sequence{long, periodic("*" + strings.Repeat("1", 63)), periodic("1*" + strings.Repeat("1", 62))}, periodic("1"), impl.ErrNone)
}

func TestIsBetween(t *testing.T) {
	for _, c := range []struct {
		v, s, t, u impl.Sequence
		want       bool
	}{
		{periodic("11*"), periodic("11*"), periodic("1"), periodic("1*1"), true}, {periodic("11*"), periodic("1"), periodic("11*"), periodic("1*1"), false}, {periodic("11*"), periodic("11*"), periodic("1*1"), periodic("*11"), false},
		{periodic("10*"), periodic("10*"), periodic("*10"), periodic("0*1"), true}, {periodic("10*"), periodic("*10"), periodic("10*"), periodic("0*1"), false}, {periodic("10*"), periodic("10*"), periodic("0*1"), periodic("*10"), false},
		{periodic("*"), periodic("0"), periodic("*"), periodic("1"), true}, {periodic("*"), periodic("*"), periodic("0"), periodic("1"), false}, {periodic("1*"), periodic("1*"), periodic("1"), periodic("*1"), true},
	} {
		got, code := impl.IsBetween(c.v, c.s, c.t, c.u)
		checkAnswer(t, fmt.Sprintf("IsBetween(%q, %q, %q, %q)", c.v, c.s, c.t, c.u), got, code, c.want, impl.ErrNone)
	}
}
