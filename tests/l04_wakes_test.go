package tests

import (
	"fmt"
	"slices"
	"testing"

	"loop.example/g01234/impl"
)

// wakePoints returns angles of all kinds: small ones, ends of pairs, angles beside these, and angles
// with a great Den or a long orbit.
func wakePoints() []impl.Angle {
	list := append(anglesUpTo(20), anglesInNoPair()...)
	for _, pair := range pairsByHandUpTo(6) {
		for _, x := range []impl.Angle{pair.Lower, pair.Upper} {
			far := 8000 / x.Den
			list = append(list, x, reduced(x.Num*far+1, x.Den*far), reduced(x.Num*far-1, x.Den*far))
		}
	}
	return append(list, angle(4095, 8191), angle(2731, 8191), angle(1170, 8191), angle(3413, 8190))
}

func TestWakesAround(t *testing.T) {
	for _, c := range []struct {
		x    impl.Angle
		n    int64
		want []impl.RayPair
	}{
		{angle(3, 7), 3, pairsWithDen(3, 1, 2)}, {angle(3, 7), 2, pairsWithDen(3, 1, 2)},
		{angle(3, 7), 4, []impl.RayPair{rayPair(1, 3, 2, 3), rayPair(2, 5, 3, 5)}},
		{angle(3, 7), 5, []impl.RayPair{rayPair(1, 3, 2, 3), rayPair(2, 5, 3, 5), rayPair(13, 31, 18, 31)}},
		{angle(1, 2), 5, []impl.RayPair{rayPair(1, 3, 2, 3), rayPair(2, 5, 3, 5), rayPair(13, 31, 18, 31), rayPair(3, 7, 4, 7), rayPair(14, 31, 17, 31), rayPair(7, 15, 8, 15), rayPair(15, 31, 16, 31)}},
		{angle(1, 2), 2, pairsWithDen(3, 1, 2)}, {angle(1, 6), 3, pairsWithDen(7, 1, 2)}, {angle(1, 6), 2, nil}, {angle(1, 6), 6, []impl.RayPair{rayPair(1, 7, 2, 7), rayPair(10, 63, 17, 63), rayPair(5, 31, 6, 31)}},
		// An angle is not in the wake that begins or ends with it.
		{angle(1, 3), 8, nil}, {angle(2, 3), 8, nil}, {angle(1, 7), 8, nil}, {angle(2, 7), 3, nil}, {angle(2, 5), 4, pairsWithDen(3, 1, 2)},
		// No wake goes around 0, and none of these periods around angles near to it.
		{angle(0, 1), 2, nil}, {angle(0, 1), 8, nil}, {angle(1, 8191), 8, nil}, {angle(8190, 8191), 8, nil}, {angle(1, 256), 8, nil},
		{angle(1, 255), 8, nil}, {angle(1, 254), 8, pairsWithDen(255, 1, 2)}, {angle(2, 509), 8, pairsWithDen(255, 1, 2)}, {angle(1, 127), 8, nil},
	} {
		got, code := impl.WakesAround(c.x, c.n)
		checkPairs(t, fmt.Sprintf("WakesAround(%v, %d)", c.x, c.n), got, code, c.want, impl.ErrNone)
	}
}

// TestWakesAroundByHand holds wakes around angles of all kinds against those found without the
// program.
func TestWakesAroundByHand(t *testing.T) {
	most := 0
	for n := int64(2); n <= 8; n++ {
		pairs := pairsByHandUpTo(n)
		for _, x := range wakePoints() {
			got, code := impl.WakesAround(x, n)
			checkPairs(t, fmt.Sprintf("WakesAround(%v, %d)", x, n), got, code, wakesByHand(x, pairs), impl.ErrNone)
			most = max(most, len(got))
		}
	}
	// 1/2 is in the wakes of all pairs on the real line.
	if most != 1+1+2+3+5+9+16 {
		t.Errorf("at most %d wakes are around an angle", most)
	}
}

func TestErrorsOfWakesAround(t *testing.T) {
	for _, n := range notInRange(2) {
		for _, x := range []impl.Angle{angle(3, 7), angle(0, 1), angle(1, 2), angle(8190, 8191), angle(1, 8190)} {
			got, code := impl.WakesAround(x, n)
			checkPairs(t, fmt.Sprintf("WakesAround(%v, %d)", x, n), got, code, nil, impl.ErrRange)
		}
		// What is no angle comes ahead of a number that is not in its range.
		for _, bad := range notAngles() {
			got, code := impl.WakesAround(bad, n)
			checkPairs(t, fmt.Sprintf("WakesAround(%v, %d)", bad, n), got, code, nil, impl.ErrInvalid)
		}
	}
	for _, bad := range notAngles() {
		for n := int64(2); n <= 8; n++ {
			got, code := impl.WakesAround(bad, n)
			checkPairs(t, fmt.Sprintf("WakesAround(%v, %d)", bad, n), got, code, nil, impl.ErrInvalid)
		}
	}
}

func TestParentOf(t *testing.T) {
	for _, c := range []struct {
		x    impl.Angle
		want impl.RayPair
		code int64
	}{
		{angle(2, 5), rayPair(1, 3, 2, 3), impl.ErrNone}, {angle(3, 5), rayPair(1, 3, 2, 3), impl.ErrNone}, {angle(22, 63), rayPair(1, 3, 2, 3), impl.ErrNone},
		{angle(7, 17), rayPair(2, 5, 3, 5), impl.ErrNone}, {angle(10, 63), rayPair(1, 7, 2, 7), impl.ErrNone}, {angle(53, 63), rayPair(5, 7, 6, 7), impl.ErrNone},
		// The parent can have a greater period than the pair.
		{angle(3, 7), rayPair(109, 255, 146, 255), impl.ErrNone}, {angle(7, 15), rayPair(59, 127, 68, 127), impl.ErrNone}, {angle(15, 31), rayPair(41, 85, 44, 85), impl.ErrNone},
		{angle(1, 3), impl.RayPair{}, impl.ErrNotFound}, {angle(2, 3), impl.RayPair{}, impl.ErrNotFound}, {angle(1, 7), impl.RayPair{}, impl.ErrNotFound},
		{angle(5, 7), impl.RayPair{}, impl.ErrNotFound}, {angle(1, 15), impl.RayPair{}, impl.ErrNotFound}, {angle(9, 31), impl.RayPair{}, impl.ErrNotFound},
		{angle(1, 255), impl.RayPair{}, impl.ErrNotFound}, {angle(254, 255), impl.RayPair{}, impl.ErrNotFound},
	} {
		got, code := impl.ParentOf(c.x)
		checkPair(t, fmt.Sprintf("ParentOf(%v)", c.x), got, code, c.want, c.code)
	}
}

// TestParentOfByHand holds parents against the least of all wakes with both angles.
func TestParentOfByHand(t *testing.T) {
	all := pairsByHandUpTo(8)
	count := map[int64]int{}
	for _, pair := range all {
		want, wantCode := impl.RayPair{}, int64(impl.ErrNotFound)
		if around := wakesAroundBoth(pair, all); len(around) > 0 {
			want, wantCode = slices.MaxFunc(around, orderWakes), impl.ErrNone
		}
		for _, x := range []impl.Angle{pair.Lower, pair.Upper} {
			got, code := impl.ParentOf(x)
			checkPair(t, fmt.Sprintf("ParentOf(%v)", x), got, code, want, wantCode)
			count[code]++
		}
	}
	// As many pairs as there are fractions in a turn with denominators from 2 to 8 have no parent.
	if count[impl.ErrNotFound] != 2*(1+2+2+4+2+6+4) {
		t.Errorf("the codes are %v", count)
	}
}

func TestDepthOf(t *testing.T) {
	for x, want := range map[impl.Angle]int64{
		angle(1, 3): 0, angle(2, 3): 0, angle(1, 7): 0, angle(6, 7): 0, angle(1, 255): 0,
		// Wakes of greater periods do not count.
		angle(3, 7): 1, angle(4, 7): 1, angle(2, 5): 1, angle(1, 5): 1, angle(7, 15): 3, angle(8, 15): 3, angle(13, 31): 2, angle(14, 31): 4, angle(15, 31): 6,
		angle(7, 17): 2, angle(10, 63): 1, angle(127, 255): 1 + 1 + 2 + 3 + 5 + 9 + 15, angle(128, 255): 1 + 1 + 2 + 3 + 5 + 9 + 15,
	} {
		got, code := impl.DepthOf(x)
		checkNumber(t, fmt.Sprintf("DepthOf(%v)", x), got, code, want, impl.ErrNone)
	}
	for n, pairs := range pairsByHand() {
		for _, pair := range pairs {
			want := int64(len(wakesAroundBoth(pair, pairsByHandUpTo(int64(n)))))
			for _, x := range []impl.Angle{pair.Lower, pair.Upper} {
				got, code := impl.DepthOf(x)
				checkNumber(t, fmt.Sprintf("DepthOf(%v)", x), got, code, want, impl.ErrNone)
			}
		}
	}
}

// TestResultsOfChapter4AreNew writes into results and into the room behind them, and asks again.
func TestResultsOfChapter4AreNew(t *testing.T) {
	pairs := pairsByHand()
	for n := int64(2); n <= 8; n++ {
		angles, _ := impl.AnglesOfPeriod(n)
		overwrite(angles, angle(5, 7))
		angles, code := impl.AnglesOfPeriod(n)
		checkAngles(t, fmt.Sprintf("AnglesOfPeriod(%d) again", n), angles, code, kneadingAngles(n), impl.ErrNone)
		list, _ := impl.PairsOfPeriod(n)
		overwrite(list, rayPair(5, 7, 1, 7))
		list, code = impl.PairsOfPeriod(n)
		checkPairs(t, fmt.Sprintf("PairsOfPeriod(%d) again", n), list, code, pairs[n], impl.ErrNone)
		wakes, _ := impl.WakesAround(angle(1, 2), n)
		overwrite(wakes, rayPair(5, 7, 1, 7))
		wakes, code = impl.WakesAround(angle(1, 2), n)
		checkPairs(t, fmt.Sprintf("WakesAround(1/2, %d) again", n), wakes, code, wakesByHand(angle(1, 2), slices.Concat(pairs[:n+1]...)), impl.ErrNone)
	}
}
