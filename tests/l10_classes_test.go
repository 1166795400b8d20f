package tests

import (
	"fmt"
	"math"
	"runtime"
	"slices"
	"testing"
	"time"

	"loop.example/g01234/impl"
)

// knownClasses are classes with their images and cycles, written out.
type knownClasses struct {
	t                       impl.Angle
	n                       int64
	classes, images, cycles string
}

// allKnownClasses returns classes of few numbers and of many.
func allKnownClasses() []knownClasses {
	return []knownClasses{
		// One number alone. The class of all: the double of 0 is 0, and so is that of 1/2.
		{angle(0, 1), 1, "0", "0", "0"}, {angle(1, 2), 1, "0", "0", "0"}, {angle(8190, 8191), 1, "0", "0", "0"}, {angle(0, 1), 2, "0 1", "0", "0"}, {angle(1, 2), 2, "0 / 1", "0 0", "0"}, {angle(1, 3), 2, "0 / 1", "0 0", "0"},
		// t is 0: each angle that becomes 0 has a star, where it is 0 or 1/2.
		{angle(0, 1), 3, "0 / 1 / 2", "0 2 1", "0 / 1 2"}, {angle(0, 1), 4, "0 2 / 1 / 3", "0 0 0", "0"}, {angle(0, 1), 8, "0 4 / 1 / 2 / 3 / 5 / 6 / 7", "0 2 0 5 2 0 5", "0"},
		// Half of t is one of the numbers or not; t has a preperiod or not; odd and even n.
		{angle(1, 2), 4, "0 / 1 3 / 2", "0 2 0", "0"}, {angle(1, 2), 8, "0 / 1 7 / 2 6 / 3 5 / 4", "0 2 4 2 0", "0"}, {angle(1, 6), 3, "0 / 1 / 2", "0 2 1", "0 / 1 2"}, {angle(1, 6), 12, "0 / 1 7 / 2 / 3 / 4 / 5 / 6 / 8 / 9 / 10 / 11", "0 2 4 6 7 9 0 4 6 7 9", "0 / 4 7"},
		{angle(1, 3), 5, "0 / 1 / 2 / 3 / 4", "0 2 4 1 3", "0 / 1 2 4 3"}, {angle(1, 3), 6, "0 / 1 4 / 2 / 3 / 5", "0 2 1 0 1", "0 / 1 2"}, {angle(2, 3), 6, "0 / 1 / 2 5 / 3 / 4", "0 2 4 0 2", "0 / 2 4"}, {angle(1, 3), 12, "0 / 1 10 / 2 8 / 3 / 4 7 / 5 / 6 / 9 / 11", "0 2 4 6 2 1 0 6 1", "0 / 2 4"},
		{angle(1, 7), 14, "0 / 1 8 / 2 / 3 / 4 / 5 / 6 / 7 / 9 / 10 / 11 / 12 / 13", "0 2 4 6 1 9 11 0 4 6 1 9 11", "0 / 1 2 4 / 6 11 9"},
		// Classes of three numbers and more, which are their own images: all have one letter.
		{angle(1, 6), 7, "0 / 1 2 4 / 3 / 5 / 6", "0 1 4 2 3", "0 / 1 / 2 4 3"}, {angle(1, 4), 7, "0 / 1 2 4 / 3 / 5 / 6", "0 1 4 2 3", "0 / 1 / 2 4 3"}, {angle(1, 4), 14, "0 / 1 9 11 / 2 4 8 / 3 / 5 / 6 / 7 / 10 / 12 / 13", "0 2 2 5 7 8 0 5 7 8", "0 / 2 / 5 8 7"},
		{angle(5, 6), 14, "0 / 1 / 2 / 3 5 13 / 4 / 6 10 12 / 7 / 8 / 9 / 11", "0 2 4 5 7 5 0 2 4 7", "0 / 2 4 7 / 5"}, {angle(1, 4), 28, "0 / 1 23 25 / 2 18 22 / 3 / 4 8 16 / 5 / 6 / 7 / 9 11 15 / 10 / 12 / 13 / 14 / 17 / 19 / 20 / 21 / 24 / 26 / 27", "0 2 4 6 4 9 10 12 2 15 17 18 0 6 9 10 12 15 17 18", "0 / 4 / 10 17 15"},
		{angle(2, 5), 15, "0 / 1 / 2 / 3 / 4 / 5 10 / 6 / 7 / 8 / 9 / 11 / 12 / 13 / 14", "0 2 4 6 8 5 11 13 1 3 7 9 10 12", "0 / 1 2 4 8 / 3 6 11 9 / 5 / 7 13 12 10"}, {angle(1, 8), 15, "0 / 1 2 4 8 / 3 / 5 / 6 / 7 / 9 / 10 / 11 / 12 / 13 / 14", "0 1 4 7 9 11 2 3 5 6 8 10", "0 / 1 / 2 4 9 6 / 3 7 / 5 11 10 8"},
		{angle(3, 10), 31, "0 / 1 / 2 / 3 / 4 / 5 9 10 18 20 / 6 / 7 / 8 / 11 / 12 / 13 / 14 / 15 / 16 / 17 / 19 / 21 / 22 / 23 / 24 / 25 / 26 / 27 / 28 / 29 / 30", "0 2 4 6 8 5 10 12 14 18 20 22 24 26 1 3 7 9 11 13 15 16 17 19 21 23 25", "0 / 1 2 4 8 14 / 3 6 10 20 15 / 5 / 7 12 24 21 16 / 9 18 11 22 17 / 13 26 25 23 19"},
		// MaxParts numbers: k and -k are alike for 1/2, and 1/7, 2/7 and 4/7 for 1/4.
		{angle(1, 2), 63, "0 / 1 62 / 2 61 / 3 60 / 4 59 / 5 58 / 6 57 / 7 56 / 8 55 / 9 54 / 10 53 / 11 52 / 12 51 / 13 50 / 14 49 / 15 48 / 16 47 / 17 46 / 18 45 / 19 44 / 20 43 / 21 42 / 22 41 / 23 40 / 24 39 / 25 38 / 26 37 / 27 36 / 28 35 / 29 34 / 30 33 / 31 32",
			"0 2 4 6 8 10 12 14 16 18 20 22 24 26 28 30 31 29 27 25 23 21 19 17 15 13 11 9 7 5 3 1", "0 / 1 2 4 8 16 31 / 3 6 12 24 15 30 / 5 10 20 23 17 29 / 7 14 28 / 9 18 27 / 11 22 19 25 13 26 / 21"},
		{angle(1, 4), 63, "0 / 1 60 / 2 57 / 3 / 4 51 / 5 40 / 6 / 7 / 8 39 / 9 18 36 / 10 17 / 11 / 12 / 13 / 14 / 15 16 / 19 / 20 34 / 21 / 22 / 23 / 24 / 25 / 26 / 27 / 28 / 29 / 30 32 / 31 / 33 / 35 / 37 / 38 / 41 / 42 / 43 / 44 / 45 / 46 / 47 / 48 / 49 / 50 / 52 / 53 / 54 / 55 / 56 / 58 / 59 / 61 / 62",
			"0 2 4 6 8 10 12 14 15 9 17 19 21 23 25 27 32 5 34 36 38 40 42 43 45 47 48 1 51 3 7 11 13 16 18 20 22 24 26 28 29 30 31 33 35 37 39 41 44 46 49 50", "0 / 1 2 4 8 15 27 / 3 6 12 21 40 29 / 5 10 17 / 7 14 25 47 41 30 / 9 / 11 19 36 22 42 31 / 13 23 43 33 16 32 / 18 34 / 20 38 26 48 44 35 / 24 45 37 / 28 51 50 49 46 39"},
	}
}

// checkClasses checks classes with their images and cycles.
func checkClasses(t *testing.T, x impl.Angle, n int64, classes [][]int64, images []int64, cycles [][]int64, wantCode int64) {
	t.Helper()
	what := fmt.Sprintf("(%v, %d)", x, n)
	lists, code := impl.ClassesOf(x, n)
	checkLists(t, "ClassesOf"+what, lists, code, classes, wantCode)
	numbers, code := impl.ClassImages(x, n)
	checkNumbers(t, "ClassImages"+what, numbers, code, images, wantCode)
	lists, code = impl.ClassCycles(x, n)
	checkLists(t, "ClassCycles"+what, lists, code, cycles, wantCode)
}

func TestClassesWithImagesAndCycles(t *testing.T) {
	for _, c := range allKnownClasses() {
		checkClasses(t, c.t, c.n, lists(c.classes), lists(c.images)[0], lists(c.cycles), impl.ErrNone)
		byHand := listsByLeast(leastByHand(c.t, c.n, 1))
		what := fmt.Sprintf("by hand for %v, %d: ", c.t, c.n)
		checkLists(t, what+"classes", byHand, 0, lists(c.classes), 0)
		checkNumbers(t, what+"images", classImagesByHand(byHand, c.n), 0, lists(c.images)[0], 0)
		checkLists(t, what+"cycles", cyclesByHand(classImagesByHand(byHand, c.n)), 0, lists(c.cycles), 0)
	}
}

// hasStars tells whether t is one of the angles k / n, and whether a half of t is, which has the letter *.
func hasStars(t impl.Angle, n int64) (bool, bool) {
	isPart := func(x impl.Angle) bool { return n%x.Den == 0 }
	return isPart(t), isPart(reduced(t.Num, 2*t.Den)) || isPart(reduced(t.Num+t.Den, 2*t.Den))
}

// classAngles returns angles for which classes are asked: all those with a small Den, some with great ones,
// and those with orbits of MaxOrbit angles and of more, which does not matter for classes.
func classAngles() []impl.Angle {
	full, more := longAngles()
	return slices.Concat(anglesUpTo(14), full, more, []impl.Angle{angle(1, 63), angle(31, 63), angle(2, 61), angle(9, 56), angle(13, 31), angle(25, 62), angle(1, 8191), angle(8190, 8191), angle(1000, 8191), angle(4097, 8190), angle(1, 4096), angle(8189, 8190)})
}

// TestClassesByHand holds classes, images and cycles for many angles and all numbers of parts against
// those found without the program.
func TestClassesByHand(t *testing.T) {
	sizes, stars := map[int64]int{}, map[[2]bool]int{}
	own, several, longest := 0, 0, 0
	for _, x := range classAngles() {
		for n := range int64(64) {
			if n == 0 {
				continue
			}
			classes := listsByLeast(leastByHand(x, n, 1))
			images := classImagesByHand(classes, n)
			cycles := cyclesByHand(images)
			checkClasses(t, x, n, classes, images, cycles, impl.ErrNone)
			sizes[greatestSize(classes)]++
			isPart, hasStar := hasStars(x, n)
			stars[[2]bool{isPart, hasStar}]++
			for _, cycle := range cycles {
				longest = max(longest, len(cycle))
				if len(cycle) == 1 && len(classes[cycle[0]]) > 1 {
					own++
				}
			}
			if len(cycles) > 1 && slices.Max(images) > 1 && len(slices.Compact(slices.Sorted(slices.Values(images)))) < len(images) {
				several++
			}
		}
	}
	if sizes[1] < 2000 || sizes[2] < 1000 || sizes[3] < 150 || sizes[4] < 50 || sizes[5] < 5 {
		t.Errorf("so many greatest sizes of classes: %v", sizes)
	}
	// The double of a part is a part. If n is even, t can be one without a half that is one.
	if stars[[2]bool{false, false}] < 3000 || stars[[2]bool{true, false}] < 10 || stars[[2]bool{true, true}] < 200 || stars[[2]bool{false, true}] > 0 {
		t.Errorf("so many t that are parts, and have halves that are: %v", stars)
	}
	if own < 200 || several < 1000 || longest != 60 {
		t.Errorf("%d large classes that are their own images, %d with several of one image, the longest cycle with %d classes", own, several, longest)
	}
}

// knownJoined are joined classes, written out.
type knownJoined struct {
	t, u    impl.Angle
	n       int64
	classes string
}

// allKnownJoined returns joined classes for angles that are equal, exchanged and opposite, and others.
func allKnownJoined() []knownJoined {
	zero, half, third, sixth, quarter := angle(0, 1), angle(1, 2), angle(1, 3), angle(1, 6), angle(1, 4)
	return []knownJoined{
		// One number alone, and the class of all.
		{half, third, 1, "0"}, {zero, zero, 1, "0"}, {zero, zero, 2, "0 1"}, {zero, half, 2, "0 1"}, {half, zero, 2, "0 1"}, {half, half, 2, "0 / 1"},
		// For 1/3, 1 and 4 are alike, and so are 2 and 5 if they are taken with the other sign.
		{third, third, 6, "0 / 1 4 / 2 5 / 3"}, {third, angle(2, 3), 6, "0 / 1 4 / 2 / 3 / 5"}, {angle(2, 3), third, 6, "0 / 1 / 2 5 / 3 / 4"}, {angle(2, 3), angle(2, 3), 6, "0 / 1 4 / 2 5 / 3"}, {zero, third, 6, "0 3 / 1 / 2 5 / 4"},
		// 1 and 5, and 2 and 4 are alike for 1/2, 2 and 5 for 1/3: so 1 and 4 are joined by both in turn.
		{half, third, 6, "0 / 1 2 4 5 / 3"}, {third, half, 6, "0 / 1 2 4 5 / 3"}, {half, third, 12, "0 / 1 2 4 5 7 8 10 11 / 3 9 / 6"},
		// Joined by t alone, by u alone, and some by t and others by u.
		{sixth, zero, 7, "0 / 1 2 4 / 3 / 5 / 6"}, {zero, sixth, 7, "0 / 1 / 2 / 3 5 6 / 4"}, {sixth, sixth, 7, "0 / 1 2 4 / 3 5 6"}, {sixth, angle(5, 6), 7, "0 / 1 2 4 / 3 / 5 / 6"}, {angle(5, 6), sixth, 7, "0 / 1 / 2 / 3 5 6 / 4"}, {quarter, quarter, 7, "0 / 1 2 4 / 3 5 6"},
		{quarter, sixth, 14, "0 / 1 9 11 / 2 4 8 / 3 5 13 / 6 10 12 / 7"}, {angle(5, 12), quarter, 14, "0 / 1 / 2 / 3 5 13 / 4 / 6 10 12 / 7 / 8 / 9 / 11"}, {quarter, angle(5, 12), 14, "0 / 1 9 11 / 2 4 8 / 3 / 5 / 6 / 7 / 10 / 12 / 13"},
		{half, half, 8, "0 / 1 7 / 2 6 / 3 5 / 4"}, {angle(2, 5), angle(2, 5), 15, "0 / 1 / 2 / 3 / 4 / 5 10 / 6 / 7 / 8 / 9 / 11 / 12 / 13 / 14"},
		// MaxParts numbers.
		{sixth, sixth, 63, "0 / 1 / 2 / 3 / 4 / 5 40 / 6 / 7 / 8 / 9 18 36 / 10 17 / 11 / 12 / 13 / 14 / 15 / 16 / 19 / 20 34 / 21 / 22 / 23 58 / 24 / 25 / 26 / 27 45 54 / 28 / 29 43 / 30 / 31 / 32 / 33 / 35 / 37 / 38 / 39 / 41 / 42 / 44 / 46 53 / 47 / 48 / 49 / 50 / 51 / 52 / 55 / 56 / 57 / 59 / 60 / 61 / 62"},
		{half, third, 63, "0 / 1 62 / 2 61 / 3 60 / 4 59 / 5 58 / 6 57 / 7 56 / 8 55 / 9 54 / 10 53 / 11 52 / 12 51 / 13 50 / 14 49 / 15 48 / 16 47 / 17 46 / 18 45 / 19 44 / 20 43 / 21 42 / 22 41 / 23 40 / 24 39 / 25 38 / 26 37 / 27 36 / 28 35 / 29 34 / 30 33 / 31 32"},
	}
}

// checkJoined checks joined classes, and how many numbers the largest one has.
func checkJoined(t *testing.T, x, y impl.Angle, n int64, classes [][]int64, wantCode int64) {
	t.Helper()
	what := fmt.Sprintf("(%v, %v, %d)", x, y, n)
	got, code := impl.JoinedClasses(x, y, n)
	checkLists(t, "JoinedClasses"+what, got, code, classes, wantCode)
	most, code := impl.LargestClass(x, y, n)
	checkNumber(t, "LargestClass"+what, most, code, greatestSize(classes), wantCode)
}

func TestJoinedClasses(t *testing.T) {
	for _, c := range allKnownJoined() {
		classes := lists(c.classes)
		checkJoined(t, c.t, c.u, c.n, classes, impl.ErrNone)
		checkLists(t, fmt.Sprintf("by hand for %v, %v, %d", c.t, c.u, c.n), listsByLeast(joinedByHand(c.t, c.u, c.n)), 0, classes, 0)
	}
}

// TestAreJoined asks for all numbers of parts, equal ones and exchanged ones, too.
func TestAreJoined(t *testing.T) {
	answers := map[bool]int{}
	for _, c := range allKnownJoined() {
		classes := lists(c.classes)
		for k := range c.n {
			for l := range c.n {
				want := classWith(k, classes) == classWith(l, classes)
				got, code := impl.AreJoined(c.t, c.u, c.n, k, l)
				checkAnswer(t, fmt.Sprintf("AreJoined(%v, %v, %d, %d, %d)", c.t, c.u, c.n, k, l), got, code, want, impl.ErrNone)
				answers[want]++
			}
		}
	}
	if answers[true] < 500 || answers[false] < 5000 {
		t.Errorf("so many answers: %v", answers)
	}
}

// inTurn returns how many pairs of numbers are joined by t and by u in turn, and neither by t nor by u.
func inTurn(t, u impl.Angle, n int64) int {
	ofT, ofU, least := leastByHand(t, n, 1), leastByHand(u, n, -1), joinedByHand(t, u, n)
	count := 0
	for k := range n {
		for l := range k {
			if least[k] == least[l] && ofT[k] != ofT[l] && ofU[k] != ofU[l] {
				count++
			}
		}
	}
	return count
}

// TestJoinedClassesByHand holds joined classes for many angles against those found without the program.
func TestJoinedClassesByHand(t *testing.T) {
	sizes, turns := map[int64]int{}, 0
	for _, x := range anglesUpTo(7) {
		for _, y := range anglesUpTo(7) {
			for _, n := range []int64{1, 2, 3, 4, 5, 6, 7, 8, 9, 10, 12, 14, 15, 18, 21, 24, 28, 30, 31, 42, 60, 62, 63} {
				classes := listsByLeast(joinedByHand(x, y, n))
				checkJoined(t, x, y, n, classes, impl.ErrNone)
				sizes[greatestSize(classes)]++
				if inTurn(x, y, n) > 0 {
					turns++
				}
			}
		}
	}
	if sizes[2] < 1000 || sizes[3] < 500 || sizes[4] < 100 || sizes[8] < 20 || sizes[12] < 20 || turns < 300 {
		t.Errorf("so many greatest sizes: %v; %d are joined in turn", sizes, turns)
	}
}

// TestJoinedClassesOfLongOrbits asks for angles with orbits of MaxOrbit angles and of more, and for great
// Dens. No angle k / n with n of at most MaxParts has an orbit that is too long.
func TestJoinedClassesOfLongOrbits(t *testing.T) {
	full, more := longAngles()
	for _, x := range slices.Concat(full, more, []impl.Angle{angle(1, 8191), angle(4095, 8191), angle(8189, 8190), angle(1, 8)}) {
		for _, y := range slices.Concat(more, []impl.Angle{angle(640, 641), angle(8190, 8191), angle(1, 8190), angle(1, 3)}) {
			for _, n := range []int64{1, 15, 30, 61, 63} {
				checkJoined(t, x, y, n, listsByLeast(joinedByHand(x, y, n)), impl.ErrNone)
			}
		}
	}
}

// checkNoClasses checks that all functions that make classes with n parts return a code.
func checkNoClasses(t *testing.T, x, y impl.Angle, n int64, want int64) {
	t.Helper()
	checkClasses(t, x, n, nil, nil, nil, want)
	checkNothingJoined(t, x, y, n, 0, 0, want)
}

// checkNothingJoined checks that all functions that join classes with n parts return a code.
func checkNothingJoined(t *testing.T, x, y impl.Angle, n, k, l int64, want int64) {
	t.Helper()
	checkJoined(t, x, y, n, nil, want)
	got, code := impl.AreJoined(x, y, n, k, l)
	checkAnswer(t, fmt.Sprintf("AreJoined(%v, %v, %d, %d, %d)", x, y, n, k, l), got, code, false, want)
}

func TestNumbersOfParts(t *testing.T) {
	full, more := longAngles()
	for _, x := range append(append(full, more...), angle(0, 1), angle(1, 2), angle(1, 7), angle(1, 64)) {
		for _, n := range notParts() {
			checkNoClasses(t, x, angle(1, 3), n, impl.ErrRange)
			checkNoClasses(t, angle(1, 3), x, n, impl.ErrRange)
		}
	}
}

// TestWhatIsNoAngleHasNoClasses asks for things that are not angles, as the first argument and as the
// second one, also beside numbers that are out of range.
func TestWhatIsNoAngleHasNoClasses(t *testing.T) {
	for _, bad := range notAngles() {
		for _, n := range append(notParts(), 1, 2, 7, 63) {
			checkNoClasses(t, bad, angle(1, 3), n, impl.ErrInvalid)
			for _, x := range []impl.Angle{angle(0, 1), angle(1, 3), angle(1, 8179), bad} {
				for _, k := range []int64{0, 6, 63, -1, math.MaxInt64} {
					checkNothingJoined(t, x, bad, n, k, 0, impl.ErrInvalid)
					checkNothingJoined(t, bad, x, n, 0, k, impl.ErrInvalid)
				}
			}
		}
	}
}

// TestNumbersThatAreNoParts asks whether numbers are joined of which one, or both, are out of range, also
// beside a number of parts that is. If all n were taken, the numbers would be in range.
func TestNumbersThatAreNoParts(t *testing.T) {
	for _, n := range []int64{1, 2, 3, 7, 12, 62, 63} {
		for _, k := range []int64{n, -1, n + 1, -2, -n, 1 - n, 2 * n, 1 << 32, 1<<32 + 1, -1 << 32, math.MaxInt64, math.MinInt64, math.MinInt64 + 1} {
			for _, l := range []int64{0, n - 1, n / 2, k, n, -1} {
				if k != 0 {
					checkNotJoined(t, n, k, l)
					checkNotJoined(t, n, l, k)
				}
			}
		}
	}
	for _, n := range notParts() {
		for _, k := range []int64{0, 1, 63, n, n - 1, -1} {
			checkNotJoined(t, n, k, 0)
			checkNotJoined(t, n, 0, k)
			checkNotJoined(t, n, k, k)
		}
	}
}

// checkNotJoined checks that AreJoined refuses a number.
func checkNotJoined(t *testing.T, n, k, l int64) {
	t.Helper()
	for _, x := range []impl.Angle{angle(0, 1), angle(1, 2)} {
		got, code := impl.AreJoined(x, angle(1, 2), n, k, l)
		checkAnswer(t, fmt.Sprintf("AreJoined(%v, 1/2, %d, %d, %d)", x, n, k, l), got, code, false, impl.ErrRange)
	}
}

// TestClassesAreApart writes into lists of classes, images and cycles, and into the room behind them. The
// others stay as they are, and what is asked again is as before.
func TestClassesAreApart(t *testing.T) {
	for range 2 {
		for _, c := range allKnownClasses() {
			what := fmt.Sprintf("(%v, %d)", c.t, c.n)
			checkClasses(t, c.t, c.n, lists(c.classes), lists(c.images)[0], lists(c.cycles), impl.ErrNone)
			classes, _ := impl.ClassesOf(c.t, c.n)
			checkRowsAreApart(t, "ClassesOf"+what, classes, lists(c.classes))
			cycles, _ := impl.ClassCycles(c.t, c.n)
			checkRowsAreApart(t, "ClassCycles"+what, cycles, lists(c.cycles))
			images, _ := impl.ClassImages(c.t, c.n)
			overwrite(images, -1)
		}
		for _, c := range allKnownJoined() {
			checkJoined(t, c.t, c.u, c.n, lists(c.classes), impl.ErrNone)
			classes, _ := impl.JoinedClasses(c.t, c.u, c.n)
			checkRowsAreApart(t, fmt.Sprintf("JoinedClasses(%v, %v, %d)", c.t, c.u, c.n), classes, lists(c.classes))
		}
	}
}

// TestNoSearchIsLeft asks for classes of all kinds: no goroutine may be left that looks for a leader, or
// waits for it to be taken.
func TestNoSearchIsLeft(t *testing.T) {
	before := runtime.NumGoroutine()
	for n := range int64(66) {
		impl.ClassesOf(angle(1, 6), n)
		impl.JoinedClasses(angle(1, 6), angle(1, 641), n)
		impl.AreJoined(angle(1, 6), angle(1, 131), n, 0, 7)
		impl.LargestClass(angle(1, 6), angle(2, 6), n)
		impl.ClassImages(angle(1, 4), n)
		impl.ClassCycles(angle(1, 4), n)
	}
	// A goroutine may need a moment to end behind its leader.
	for range 1000 {
		if runtime.NumGoroutine() <= before {
			return
		}
		time.Sleep(time.Millisecond)
	}
	t.Errorf("%d goroutines are left of %d", runtime.NumGoroutine(), before)
}

// TestAskedAtTheSameTime asks for the same classes from many goroutines: nothing is kept between them.
func TestAskedAtTheSameTime(t *testing.T) {
	done := make(chan bool)
	for range 8 {
		go func() {
			for _, c := range allKnownJoined() {
				checkJoined(t, c.t, c.u, c.n, lists(c.classes), impl.ErrNone)
			}
			done <- true
		}()
	}
	for range 8 {
		<-done
	}
}
