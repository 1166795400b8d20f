package tests

import (
	"fmt"
	"slices"
	"testing"

	"loop.example/g01234/impl"
)

// promiseAngles returns angles that are asked for classes: with a preperiod and without, with a part of
// them being one of the numbers k / n or not.
func promiseAngles() []impl.Angle {
	return append(anglesUpTo(8), angle(5, 12), angle(9, 56), angle(3, 10), angle(13, 31), angle(31, 63), angle(11, 62), angle(1, 641), angle(1, 8179), angle(8190, 8191))
}

// classesOf returns classes for t, and asserts that there are some.
func classesOf(t *testing.T, x impl.Angle, n int64) [][]int64 {
	t.Helper()
	classes, code := impl.ClassesOf(x, n)
	if code != impl.ErrNone || len(classes) == 0 {
		t.Fatalf("ClassesOf(%v, %d) = %v, %d", x, n, classes, code)
	}
	return classes
}

// checkEachOnce checks that classes have each number in 0..n - 1 once, in ascending order within a class,
// and that the classes are in ascending order of their least numbers.
func checkEachOnce(t *testing.T, what string, classes [][]int64, n int64) {
	t.Helper()
	firsts, all := []int64{}, []int64{}
	for _, class := range classes {
		if len(class) == 0 || !isRising(class) {
			t.Fatalf("%s has the class %v", what, class)
		}
		firsts, all = append(firsts, class[0]), append(all, class...)
	}
	slices.Sort(all)
	if !isRising(firsts) || !isRising(all) || int64(len(all)) != n || all[0] != 0 || all[n-1] != n-1 {
		t.Errorf("%s has the classes %v", what, classes)
	}
}

// isRising reports whether each number of a list is greater than the one before it.
func isRising(list []int64) bool {
	for i := range list {
		if i > 0 && list[i-1] >= list[i] {
			return false
		}
	}
	return true
}

// Promise 10: classes have each number once, those for one angle and joined ones.
func TestClassesHaveEachNumberOnce(t *testing.T) {
	for _, x := range promiseAngles() {
		for n := int64(1); n <= 63; n++ {
			checkEachOnce(t, fmt.Sprintf("ClassesOf(%v, %d)", x, n), classesOf(t, x, n), n)
		}
		for _, y := range promiseAngles() {
			for _, n := range []int64{1, 2, 6, 7, 12, 15, 28, 31, 60, 63} {
				joined, code := impl.JoinedClasses(x, y, n)
				if code != impl.ErrNone {
					t.Fatalf("JoinedClasses(%v, %v, %d): code %d", x, y, n, code)
				}
				checkEachOnce(t, fmt.Sprintf("JoinedClasses(%v, %v, %d)", x, y, n), joined, n)
			}
		}
	}
}

// Promise 10: being obstructed does not depend on the order.
func TestBeingObstructedDoesNotDependOnTheOrder(t *testing.T) {
	sample := append(promiseAngles(), angle(2, 15), angle(14, 15), angle(22, 31), angle(1, 255), angle(254, 255), angle(1, 511), angle(3, 46))
	obstructed := 0
	for i, x := range sample {
		for _, y := range sample[:i] {
			want, code := impl.AreObstructed(x, y)
			if code != impl.ErrNone {
				t.Fatalf("AreObstructed(%v, %v): code %d", x, y, code)
			}
			checkObstructed(t, y, x, want, impl.ErrNone)
			if want {
				obstructed++
			}
		}
	}
	if obstructed < 60 {
		t.Errorf("only %d are obstructed", obstructed)
	}
}

// classParts are the numbers of parts with which the letters of classes are compared.
func classParts() []int64 {
	return []int64{1, 2, 3, 6, 7, 8, 12, 14, 15, 28, 31, 42, 60, 63}
}

// lettersOfPart returns the first letters of k / n for t: one for each angle that arises by doubling, until
// all that there are have come.
func lettersOfPart(t *testing.T, k, n int64, x impl.Angle) string {
	t.Helper()
	letters := ""
	for range 2 * n {
		letter, code := impl.LetterOf(reduced(k, n), x)
		if code != impl.ErrNone {
			t.Fatalf("LetterOf(%v, %v): code %d", reduced(k, n), x, code)
		}
		letters += letter
		k = 2 * k % n
	}
	return letters
}

// Promise 14: angles of one class have equal letters, and equal itineraries.
func TestAnglesOfOneClassHaveEqualLetters(t *testing.T) {
	together := 0
	for _, x := range promiseAngles() {
		for _, n := range classParts() {
			for _, class := range classesOf(t, x, n) {
				letters := lettersOfPart(t, class[0], n, x)
				itinerary, wantCode := impl.ItineraryOf(reduced(class[0], n), x)
				for _, k := range class[1:] {
					what := fmt.Sprintf("%d/%d for %v", k, n, x)
					checkText(t, "letters of "+what, lettersOfPart(t, k, n, x), 0, letters, 0)
					got, code := impl.ItineraryOf(reduced(k, n), x)
					checkSequence(t, "itinerary of "+what, got, code, itinerary, wantCode)
					together++
				}
			}
		}
	}
	if together < 500 {
		t.Errorf("only %d numbers are in one class with a lesser one", together)
	}
}

// Angles of different classes have different itineraries.
func TestClassesHaveDifferentItineraries(t *testing.T) {
	for _, x := range promiseAngles() {
		for _, n := range classParts() {
			met := map[impl.Sequence]int64{}
			for _, class := range classesOf(t, x, n) {
				itinerary, code := impl.ItineraryOf(reduced(class[0], n), x)
				if before, is := met[itinerary]; is || code != impl.ErrNone {
					t.Errorf("for %v, %d: %d and %d have the itinerary %q, %d", x, n, before, class[0], itinerary, code)
				}
				met[itinerary] = class[0]
			}
		}
	}
}

// Promise 14: doubled angles of a class are in the image of the class.
func TestDoubledAnglesAreInTheImage(t *testing.T) {
	together := 0
	for _, x := range promiseAngles() {
		for n := int64(1); n <= 63; n++ {
			classes := classesOf(t, x, n)
			images, code := impl.ClassImages(x, n)
			if code != impl.ErrNone || len(images) != len(classes) {
				t.Fatalf("ClassImages(%v, %d) = %v, %d", x, n, images, code)
			}
			for i, class := range classes {
				for _, k := range class {
					if images[i] < 0 || images[i] >= int64(len(classes)) || !slices.Contains(classes[images[i]], 2*k%n) {
						t.Errorf("ClassImages(%v, %d): the image of %v has the number %d in %v", x, n, class, images[i], classes)
					}
				}
				together += len(class) - 1
			}
		}
	}
	if together < 3000 {
		t.Errorf("only %d numbers are in one class with a lesser one", together)
	}
}

// Each class of a cycle is followed by its image, the last one by the first one, which is the least one.
// A class is in one cycle if it is led back to itself, and otherwise in none.
func TestCyclesAreLedAround(t *testing.T) {
	outside := 0
	for _, x := range promiseAngles() {
		for n := int64(1); n <= 63; n++ {
			images, code := impl.ClassImages(x, n)
			cycles, cyclesCode := impl.ClassCycles(x, n)
			if code != impl.ErrNone || cyclesCode != impl.ErrNone {
				t.Fatalf("ClassCycles(%v, %d): codes %d and %d", x, n, code, cyclesCode)
			}
			inCycles, firsts := map[int64]int{}, []int64{}
			for _, cycle := range cycles {
				for i, c := range cycle {
					inCycles[c]++
					if next := cycle[(i+1)%len(cycle)]; images[c] != next || c < cycle[0] {
						t.Errorf("ClassCycles(%v, %d) has %v, images %v", x, n, cycle, images)
					}
				}
				firsts = append(firsts, cycle[0])
			}
			for c := range images {
				at, back := int64(c), 0
				for range images {
					at = images[at]
					if at == int64(c) {
						back = 1
					}
				}
				if inCycles[int64(c)] != back {
					t.Errorf("ClassCycles(%v, %d) = %v: %d is there %d times", x, n, cycles, c, inCycles[int64(c)])
				}
				outside += 1 - back
			}
			if !isRising(firsts) {
				t.Errorf("ClassCycles(%v, %d) = %v", x, n, cycles)
			}
		}
	}
	if outside < 10000 {
		t.Errorf("only %d classes are in no cycle", outside)
	}
}

// The guarantee of chapter 10: joined classes are made of classes, of those for t as they are, and of those
// for u with the other sign. Two numbers are in one of them if AreJoined says so.
func TestJoinedClassesAreMadeOfClasses(t *testing.T) {
	for _, x := range anglesUpTo(7) {
		for _, y := range anglesUpTo(7) {
			for _, n := range []int64{2, 7, 12, 30, 63} {
				joined, code := impl.JoinedClasses(x, y, n)
				if code != impl.ErrNone {
					t.Fatalf("JoinedClasses(%v, %v, %d): code %d", x, y, n, code)
				}
				for _, class := range classesOf(t, x, n) {
					checkInOne(t, class, joined, x, y, n)
				}
				for _, class := range classesOf(t, y, n) {
					checkInOne(t, opposed(class, n), joined, x, y, n)
				}
			}
		}
	}
}

// opposed returns numbers of parts with the other sign.
func opposed(class []int64, n int64) []int64 {
	list := []int64{}
	for _, k := range class {
		list = append(list, (n-k)%n)
	}
	return list
}

// checkInOne checks that numbers are in one joined class.
func checkInOne(t *testing.T, class []int64, joined [][]int64, x, y impl.Angle, n int64) {
	t.Helper()
	for _, k := range class[1:] {
		if classWith(k, joined) != classWith(class[0], joined) {
			t.Errorf("JoinedClasses(%v, %v, %d) = %v: %v are apart", x, y, n, joined, class)
		}
		is, code := impl.AreJoined(x, y, n, k, class[0])
		checkAnswer(t, fmt.Sprintf("AreJoined(%v, %v, %d, %d, %d)", x, y, n, k, class[0]), is, code, true, impl.ErrNone)
	}
}

// If t and u are exchanged, all numbers of joined classes get the other sign. If u is -t, the joined classes
// are those for t.
func TestJoinedClassesOfExchangedAndOppositeAngles(t *testing.T) {
	for _, x := range promiseAngles() {
		for _, n := range []int64{1, 2, 5, 6, 14, 28, 31, 62, 63} {
			opposite, code := impl.OppositeAngle(x)
			if code != impl.ErrNone {
				t.Fatalf("OppositeAngle(%v): code %d", x, code)
			}
			checkJoined(t, x, opposite, n, classesOf(t, x, n), impl.ErrNone)
			for _, y := range []impl.Angle{angle(0, 1), angle(1, 6), angle(1, 3), angle(1, 2), x} {
				joined, code := impl.JoinedClasses(x, y, n)
				if code != impl.ErrNone {
					t.Fatalf("JoinedClasses(%v, %v, %d): code %d", x, y, n, code)
				}
				exchanged := make([]int64, n)
				for _, class := range joined {
					for _, k := range opposed(class, n) {
						exchanged[k] = slices.Min(opposed(class, n))
					}
				}
				checkJoined(t, y, x, n, listsByLeast(exchanged), impl.ErrNone)
			}
		}
	}
}

// An angle and its opposite make a whole turn, and the limb of the opposite angle is the limb with opposite
// angles. The ends of a limb have it as their limb.
func TestLimbsOfOppositeAngles(t *testing.T) {
	for _, x := range append(promiseAngles(), withoutLimb()...) {
		opposite, code := impl.OppositeAngle(x)
		sum, sumCode := impl.AddAngles(x, opposite)
		checkAngle(t, fmt.Sprintf("%v and %v", x, opposite), sum, code+sumCode, angle(0, 1), impl.ErrNone)
		limb, code := impl.LimbOf(x)
		if code == impl.ErrNotFound {
			checkLimb(t, opposite, impl.RayPair{}, impl.ErrNotFound)
			continue
		}
		checkLimb(t, opposite, impl.RayPair{Lower: oppositeByHand(limb.Upper), Upper: oppositeByHand(limb.Lower)}, code)
		checkLimb(t, limb.Lower, limb, code)
		checkLimb(t, limb.Upper, limb, code)
		checkObstructed(t, x, opposite, true, impl.ErrNone)
	}
}
