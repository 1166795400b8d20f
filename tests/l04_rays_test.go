package tests

import (
	"fmt"
	"slices"
	"testing"

	"loop.example/g01234/impl"
)

func TestConstantsOfChapter4(t *testing.T) {
	if impl.MaxPeriod != 8 {
		t.Errorf("the limit is %d", impl.MaxPeriod)
	}
}

func TestAnglesOfPeriod(t *testing.T) {
	for n, want := range map[int64][]impl.Angle{
		1: {angle(0, 1)},
		2: {angle(1, 3), angle(2, 3)},
		3: {angle(1, 7), angle(2, 7), angle(3, 7), angle(4, 7), angle(5, 7), angle(6, 7)},
		// 0, 1/3 and 2/3 have other periods.
		4: {angle(1, 15), angle(2, 15), angle(1, 5), angle(4, 15), angle(2, 5), angle(7, 15), angle(8, 15), angle(3, 5), angle(11, 15), angle(4, 5), angle(13, 15), angle(14, 15)},
	} {
		got, code := impl.AnglesOfPeriod(n)
		checkAngles(t, fmt.Sprintf("AnglesOfPeriod(%d)", n), got, code, want, impl.ErrNone)
	}
	for n := int64(1); n <= 8; n++ {
		got, code := impl.AnglesOfPeriod(n)
		checkAngles(t, fmt.Sprintf("AnglesOfPeriod(%d)", n), got, code, kneadingAngles(n), impl.ErrNone)
		if want := []int{0, 1, 2, 6, 12, 30, 54, 126, 240}[n]; len(got) != want {
			t.Errorf("AnglesOfPeriod(%d): %d angles, want %d", n, len(got), want)
		}
	}
	for _, n := range notInRange(1) {
		got, code := impl.AnglesOfPeriod(n)
		checkAngles(t, fmt.Sprintf("AnglesOfPeriod(%d)", n), got, code, nil, impl.ErrRange)
	}
}

func TestPairsOfPeriod(t *testing.T) {
	for n, want := range knownPairs() {
		got, code := impl.PairsOfPeriod(n)
		checkPairs(t, fmt.Sprintf("PairsOfPeriod(%d)", n), got, code, want, impl.ErrNone)
	}
	for n, want := range pairsByHand() {
		if n >= 2 {
			got, code := impl.PairsOfPeriod(int64(n))
			checkPairs(t, fmt.Sprintf("PairsOfPeriod(%d)", n), got, code, want, impl.ErrNone)
		}
	}
	for _, n := range notInRange(2) {
		got, code := impl.PairsOfPeriod(n)
		checkPairs(t, fmt.Sprintf("PairsOfPeriod(%d)", n), got, code, nil, impl.ErrRange)
	}
}

// TestPairsFollowTheRule takes the pairs as the rule of Lavaurs finds them: each has the least angle
// that is free, and the next greater free one for which the pair crosses none that was found before.
func TestPairsFollowTheRule(t *testing.T) {
	found := []impl.RayPair{}
	for n := int64(2); n <= 8; n++ {
		pairs, code := impl.PairsOfPeriod(n)
		if code != impl.ErrNone {
			t.Fatalf("PairsOfPeriod(%d): code %d", n, code)
		}
		free := kneadingAngles(n)
		for _, pair := range pairs {
			if len(free) == 0 || pair.Lower != free[0] {
				t.Fatalf("period %d: %v does not begin with the least of %v", n, pair, free)
			}
			next := slices.IndexFunc(free[1:], func(b impl.Angle) bool {
				tried := impl.RayPair{Lower: free[0], Upper: b}
				return !slices.ContainsFunc(found, func(other impl.RayPair) bool { return doPairsCross(tried, other) })
			})
			if next < 0 || pair.Upper != free[1:][next] {
				t.Fatalf("period %d: %v does not end with the next one of %v", n, pair, free)
			}
			free = slices.Delete(free[1:], next, next+1)
			found = append(found, pair)
		}
		if len(free) > 0 {
			t.Errorf("period %d: %v are in no pair", n, free)
		}
	}
	if len(found) != 235 {
		t.Errorf("there are %d pairs", len(found))
	}
}

func TestPartnerOfAndPairOf(t *testing.T) {
	for _, pair := range append(pairsByHandUpTo(8), rayPair(1, 7, 2, 7), rayPair(2, 5, 3, 5), rayPair(13, 31, 18, 31), rayPair(7, 17, 10, 17), rayPair(127, 255, 128, 255)) {
		for _, ends := range [][2]impl.Angle{{pair.Lower, pair.Upper}, {pair.Upper, pair.Lower}} {
			partner, code := impl.PartnerOf(ends[0])
			checkAngle(t, fmt.Sprintf("PartnerOf(%v)", ends[0]), partner, code, ends[1], impl.ErrNone)
			got, code := impl.PairOf(ends[0])
			checkPair(t, fmt.Sprintf("PairOf(%v)", ends[0]), got, code, pair, impl.ErrNone)
		}
	}
}

func TestWidthOf(t *testing.T) {
	for _, c := range [][2]impl.Angle{
		{angle(1, 7), angle(1, 7)}, {angle(2, 7), angle(1, 7)}, {angle(6, 7), angle(1, 7)}, {angle(1, 3), angle(1, 3)}, {angle(2, 3), angle(1, 3)},
		{angle(2, 5), angle(1, 5)}, {angle(1, 15), angle(1, 15)}, {angle(1, 5), angle(1, 15)}, {angle(13, 31), angle(5, 31)}, {angle(17, 31), angle(3, 31)},
		{angle(10, 63), angle(1, 9)}, {angle(22, 63), angle(1, 21)}, {angle(26, 63), angle(11, 63)}, {angle(7, 17), angle(3, 17)}, {angle(254, 255), angle(1, 255)},
	} {
		got, code := impl.WidthOf(c[0])
		checkAngle(t, fmt.Sprintf("WidthOf(%v)", c[0]), got, code, c[1], impl.ErrNone)
	}
	for _, pair := range pairsByHandUpTo(8) {
		for _, x := range []impl.Angle{pair.Lower, pair.Upper} {
			got, code := impl.WidthOf(x)
			checkAngle(t, fmt.Sprintf("WidthOf(%v)", x), got, code, widthByHand(pair), impl.ErrNone)
		}
	}
}

func TestIsSatellite(t *testing.T) {
	for _, c := range []struct {
		x    impl.Angle
		want bool
	}{
		{angle(1, 3), true}, {angle(2, 3), true}, {angle(1, 7), true}, {angle(3, 7), false}, {angle(4, 7), false}, {angle(6, 7), true},
		{angle(2, 5), true}, {angle(1, 5), false}, {angle(7, 15), false}, {angle(9, 31), true}, {angle(13, 31), false}, {angle(10, 63), true},
		{angle(22, 63), true}, {angle(26, 63), false}, {angle(4, 9), true}, {angle(7, 17), true}, {angle(127, 255), false}, {angle(1, 255), true},
	} {
		got, code := impl.IsSatellite(c.x)
		checkAnswer(t, fmt.Sprintf("IsSatellite(%v)", c.x), got, code, c.want, impl.ErrNone)
	}
	for n, pairs := range pairsByHand() {
		for _, pair := range pairs {
			for _, x := range []impl.Angle{pair.Lower, pair.Upper} {
				got, code := impl.IsSatellite(x)
				checkAnswer(t, fmt.Sprintf("IsSatellite(%v)", x), got, code, areInOneOrbit(pair, int64(n)), impl.ErrNone)
			}
		}
	}
}

func TestCountSatellites(t *testing.T) {
	for n, want := range map[int64]int64{2: 1, 3: 2, 4: 3, 5: 4, 6: 7, 7: 6, 8: 12} {
		got, code := impl.CountSatellites(n)
		checkNumber(t, fmt.Sprintf("CountSatellites(%d)", n), got, code, want, impl.ErrNone)
	}
	for _, n := range notInRange(2) {
		got, code := impl.CountSatellites(n)
		checkNumber(t, fmt.Sprintf("CountSatellites(%d)", n), got, code, 0, impl.ErrRange)
	}
}

// checkRefused checks that all functions that ask for the pair of an angle refuse it with a code.
func checkRefused(t *testing.T, x impl.Angle, want int64) {
	t.Helper()
	partner, code := impl.PartnerOf(x)
	checkAngle(t, fmt.Sprintf("PartnerOf(%v)", x), partner, code, angle(0, 0), want)
	pair, code := impl.PairOf(x)
	checkPair(t, fmt.Sprintf("PairOf(%v)", x), pair, code, impl.RayPair{}, want)
	width, code := impl.WidthOf(x)
	checkAngle(t, fmt.Sprintf("WidthOf(%v)", x), width, code, angle(0, 0), want)
	satellite, code := impl.IsSatellite(x)
	checkAnswer(t, fmt.Sprintf("IsSatellite(%v)", x), satellite, code, false, want)
	parent, code := impl.ParentOf(x)
	checkPair(t, fmt.Sprintf("ParentOf(%v)", x), parent, code, impl.RayPair{}, want)
	depth, code := impl.DepthOf(x)
	checkNumber(t, fmt.Sprintf("DepthOf(%v)", x), depth, code, 0, want)
}

func TestAnglesInNoPairAreRefused(t *testing.T) {
	for _, x := range anglesInNoPair() {
		checkRefused(t, x, impl.ErrRange)
	}
	for _, bad := range notAngles() {
		checkRefused(t, bad, impl.ErrInvalid)
	}
	// What is no angle is refused as such also if its numbers are those of an angle in a pair.
	for _, bad := range []impl.Angle{angle(2, 6), angle(10, 15), angle(3, 255), angle(8, 7), angle(-1, 7), angle(1, -7), angle(7, 7)} {
		checkRefused(t, bad, impl.ErrInvalid)
	}
}

// TestWhichAnglesAreInPairs asks for the pair of all angles up to a Den beyond that of the period 9.
func TestWhichAnglesAreInPairs(t *testing.T) {
	inPairs := 0
	for _, x := range anglesUpTo(520) {
		preperiod, period := orbitByNumbers(x.Num, x.Den)
		pair, code := impl.PairOf(x)
		if preperiod > 0 || period < 2 || period > 8 {
			checkPair(t, fmt.Sprintf("PairOf(%v)", x), pair, code, impl.RayPair{}, impl.ErrRange)
			continue
		}
		inPairs++
		if code != impl.ErrNone || pair.Lower != x && pair.Upper != x || orderByHand(pair.Lower, pair.Upper) >= 0 {
			t.Errorf("PairOf(%v) = %v, %d", x, pair, code)
		}
	}
	if inPairs != 470 {
		t.Errorf("%d angles are in pairs", inPairs)
	}
}

func TestArePairsCrossing(t *testing.T) {
	for _, c := range []struct {
		a, b impl.RayPair
		want bool
	}{
		{rayPair(1, 7, 3, 7), rayPair(2, 7, 4, 7), true}, {rayPair(2, 7, 4, 7), rayPair(1, 7, 3, 7), true}, {rayPair(1, 7, 2, 7), rayPair(3, 7, 4, 7), false},
		// Pairs inside each other, the same one, and pairs with an angle in common.
		{rayPair(1, 7, 4, 7), rayPair(2, 7, 3, 7), false}, {rayPair(2, 7, 3, 7), rayPair(1, 7, 4, 7), false}, {rayPair(1, 7, 4, 7), rayPair(1, 7, 4, 7), false},
		{rayPair(1, 7, 3, 7), rayPair(1, 7, 2, 7), false}, {rayPair(1, 7, 3, 7), rayPair(1, 7, 4, 7), false}, {rayPair(1, 7, 3, 7), rayPair(2, 7, 3, 7), false},
		{rayPair(1, 7, 3, 7), rayPair(0, 1, 3, 7), false}, {rayPair(1, 7, 3, 7), rayPair(3, 7, 4, 7), false}, {rayPair(3, 7, 4, 7), rayPair(1, 7, 3, 7), false},
		// The angles need not be in ray pairs.
		{rayPair(0, 1, 1, 2), rayPair(1, 4, 3, 4), true}, {rayPair(0, 1, 1, 2), rayPair(1, 2, 3, 4), false}, {rayPair(0, 1, 8189, 8190), rayPair(8189, 8191, 8190, 8191), true},
		{rayPair(0, 1, 8190, 8191), rayPair(8189, 8191, 8189, 8190), false}, {rayPair(1, 8191, 1, 8190), rayPair(1, 8189, 8190, 8191), false},
	} {
		got, code := impl.ArePairsCrossing(c.a, c.b)
		checkAnswer(t, fmt.Sprintf("ArePairsCrossing(%v, %v)", c.a, c.b), got, code, c.want, impl.ErrNone)
	}
	count := map[bool]int{}
	for _, list := range [][]impl.Leaf{leavesUpTo(7), farLeaves(), leavesOf(sixPoints())} {
		for _, l := range list {
			for _, m := range list {
				a, b := impl.RayPair{Lower: l.First, Upper: l.Second}, impl.RayPair{Lower: m.First, Upper: m.Second}
				got, code := impl.ArePairsCrossing(a, b)
				checkAnswer(t, fmt.Sprintf("ArePairsCrossing(%v, %v)", a, b), got, code, crossByHand(l, m), impl.ErrNone)
				count[got]++
			}
		}
	}
	if count[true] < 1000 || count[false] < 1000 {
		t.Errorf("the answers are %v", count)
	}
}

func TestErrorsOfArePairsCrossing(t *testing.T) {
	wrong := []impl.RayPair{
		rayPair(2, 7, 1, 7), rayPair(1, 7, 1, 7), rayPair(0, 1, 0, 1), rayPair(1, 2, 0, 1), rayPair(1, 2, 1, 3),
		rayPair(1, 8190, 1, 8191), rayPair(8190, 8191, 8189, 8190), rayPair(8190, 8191, 8190, 8191),
	}
	right := []impl.RayPair{rayPair(1, 7, 2, 7), rayPair(0, 1, 8190, 8191), rayPair(1, 8191, 1, 8190)}
	for _, a := range wrong {
		for _, b := range append(right, wrong...) {
			got, code := impl.ArePairsCrossing(a, b)
			checkAnswer(t, fmt.Sprintf("ArePairsCrossing(%v, %v)", a, b), got, code, false, impl.ErrRange)
			got, code = impl.ArePairsCrossing(b, a)
			checkAnswer(t, fmt.Sprintf("ArePairsCrossing(%v, %v)", b, a), got, code, false, impl.ErrRange)
		}
	}
	for _, bad := range notAngles() {
		// What is no angle comes ahead of pairs told with the greater angle first.
		for _, other := range append(right, wrong...) {
			for _, a := range []impl.RayPair{{Lower: bad, Upper: angle(8190, 8191)}, {Lower: angle(0, 1), Upper: bad}, {Lower: bad, Upper: bad}, {Lower: bad}, {Upper: bad}} {
				got, code := impl.ArePairsCrossing(a, other)
				checkAnswer(t, fmt.Sprintf("ArePairsCrossing(%v, %v)", a, other), got, code, false, impl.ErrInvalid)
				got, code = impl.ArePairsCrossing(other, a)
				checkAnswer(t, fmt.Sprintf("ArePairsCrossing(%v, %v)", other, a), got, code, false, impl.ErrInvalid)
			}
		}
	}
}
