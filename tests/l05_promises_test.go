package tests

import (
	"fmt"
	"slices"
	"testing"

	"loop.example/g01234/impl"
)

// Promise 5: majors have the minor leaf as their image. This holds for the majors of each leaf that
// has some.
func TestMajorsHaveTheLeafAsTheirImage(t *testing.T) {
	count := 0
	for _, m := range slices.Concat(leavesUpTo(16), farLeaves(), grownSamples()) {
		majors, code := impl.MajorsOf(m)
		if code != impl.ErrNone {
			continue
		}
		count++
		what := fmt.Sprintf("MajorsOf(%v) = %v", m, majors)
		if len(majors) != 2 || orderLeavesByHand(majors[0], majors[1]) >= 0 {
			t.Fatalf("%s: not two leaves in order", what)
		}
		for _, major := range majors {
			image, code := impl.ImageOfLeaf(major)
			checkLeaf(t, what+": the image", image, code, m, impl.ErrNone)
		}
		crosses, code := impl.DoLeavesCross(majors[0], majors[1])
		checkAnswer(t, what+": crossing each other", crosses, code, false, impl.ErrNone)
	}
	if count < 1000 {
		t.Errorf("only %d leaves have majors", count)
	}
}

// Promise 5: classes divide the ends. Each end is in one class, all ends of a leaf in the same one.
func TestClassesDivideTheEnds(t *testing.T) {
	for _, list := range sampleLaminations() {
		classes, code := impl.EndClasses(list)
		if code != impl.ErrNone {
			t.Fatalf("EndClasses(%s): code %d", brief(list), code)
		}
		classOf := map[impl.Angle]int{}
		all := []impl.Angle{}
		for i, class := range classes {
			if len(class) < 2 || i > 0 && orderByHand(classes[i-1][0], class[0]) >= 0 {
				t.Errorf("EndClasses(%s): class %d is %v", brief(list), i, class)
			}
			for _, end := range class {
				classOf[end] = i
			}
			all = append(all, class...)
		}
		slices.SortFunc(all, orderByHand)
		if !slices.Equal(all, endsByHand(list)) {
			t.Errorf("EndClasses(%s) has the ends %v", brief(list), all)
		}
		for _, l := range list {
			if classOf[l.First] != classOf[l.Second] {
				t.Errorf("EndClasses(%s) divides %v", brief(list), l)
			}
		}
	}
}

// Promise 16: laminations of minor leaves are laminations that are carried into themselves. They
// have the minor leaf with its images and majors, and each depth has the leaves of the one before.
func TestLaminationsOfMinorLeavesAreCarriedIntoThemselves(t *testing.T) {
	count := 0
	for _, m := range append(minorLeaves(), grownSamples()...) {
		before := append(imagesByHand(m), majorsByHand(m)...)
		for k := range int64(7) {
			list, code := impl.LaminationOf(m, k)
			if code != impl.ErrNone {
				break
			}
			count++
			what := fmt.Sprintf("LaminationOf(%v, %d)", m, k)
			if !impl.IsLamination(list) {
				t.Errorf("%s is no lamination", what)
			}
			carried, code := impl.IsCarried(list)
			checkAnswer(t, "IsCarried of "+what, carried, code, true, impl.ErrNone)
			if !isCarriedByHand(list) {
				t.Errorf("%s is not carried into itself", what)
			}
			for _, l := range before {
				if !slices.Contains(list, l) {
					t.Errorf("%s lacks %v", what, l)
				}
			}
			before = list
		}
	}
	if count < 500 {
		t.Errorf("only %d laminations have been looked at", count)
	}
}

// minorLeaves returns all minor leaves whose ends have a small Den, as the program finds them.
func minorLeaves() []impl.Leaf {
	return slices.DeleteFunc(leavesUpTo(20), func(l impl.Leaf) bool {
		condition, code := impl.ConditionThatFails(l)
		return condition != 0 || code != impl.ErrNone
	})
}

// The guarantee of chapter 5: what arises when a leaf is pulled back has this leaf as its image. It
// crosses no major, and the two leaves do not cross each other.
func TestImagesOfWhatIsPulledBackByMinorLeaves(t *testing.T) {
	count := 0
	for _, m := range append(minorLeaves(), grownSamples()...) {
		majors, code := impl.MajorsOf(m)
		if code != impl.ErrNone {
			t.Fatalf("MajorsOf(%v): code %d", m, code)
		}
		for _, l := range slices.Concat(leavesUpTo(6), farLeaves(), majors, imagesByHand(m)) {
			pulled, code := impl.PullBackBy(l, m)
			if code != impl.ErrNone {
				continue
			}
			count++
			what := fmt.Sprintf("PullBackBy(%v, %v) = %v", l, m, pulled)
			if len(pulled) != 2 || orderLeavesByHand(pulled[0], pulled[1]) >= 0 || crossByHand(pulled[0], pulled[1]) {
				t.Fatalf("%s: not two leaves in order", what)
			}
			for _, p := range pulled {
				image, code := impl.ImageOfLeaf(p)
				checkLeaf(t, what+": the image", image, code, l, impl.ErrNone)
				if crossesAny(p, majors) {
					t.Errorf("%s: crossing a major", what)
				}
			}
		}
	}
	if count < 5000 {
		t.Errorf("only %d leaves have been pulled back", count)
	}
}

// The ray pairs of chapter 4 are minor leaves, and no other leaves between angles of their periods
// are, but such as lie around the angle 0.
func TestRayPairsAreMinorLeaves(t *testing.T) {
	for n := int64(2); n <= 8; n++ {
		pairs, code := impl.PairsOfPeriod(n)
		if code != impl.ErrNone {
			t.Fatalf("PairsOfPeriod(%d): code %d", n, code)
		}
		own := []impl.Leaf{}
		for _, pair := range pairs {
			own = append(own, impl.Leaf{First: pair.Lower, Second: pair.Upper})
		}
		others := own
		if n <= 6 {
			others = leavesOf(kneadingAngles(n))
		}
		for _, l := range others {
			got, code := impl.ConditionThatFails(l)
			if from, to := forwardEnds(l); code != impl.ErrNone || orderByHand(from, to) < 0 && (got == 0) != slices.Contains(own, l) {
				t.Errorf("ConditionThatFails(%v): got %d, %d", l, got, code)
			}
		}
	}
}
