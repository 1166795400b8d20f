package tests

import (
	"fmt"
	"slices"
	"testing"

	"loop.example/g01234/impl"
)

// knownLimbs returns all ray pairs that are limbs, written out.
func knownLimbs() []impl.RayPair {
	return slices.Concat(
		pairsWithDen(3, 1, 2), pairsWithDen(7, 1, 2, 5, 6), pairsWithDen(15, 1, 2, 13, 14), pairsWithDen(31, 1, 2, 9, 10, 21, 22, 29, 30), pairsWithDen(63, 1, 2, 61, 62),
		pairsWithDen(127, 1, 2, 17, 18, 41, 42, 85, 86, 109, 110, 125, 126), pairsWithDen(255, 1, 2, 73, 74, 181, 182, 253, 254),
	)
}

// withoutLimb returns angles that have no limb: 0, those between limbs, and those at the ends of wakes of
// greater periods.
func withoutLimb() []impl.Angle {
	return []impl.Angle{
		angle(0, 1), angle(1, 256), angle(255, 256), angle(1, 511), angle(2, 511), angle(510, 511), angle(1, 8191), angle(8190, 8191), angle(1, 8190), angle(4, 509), angle(3, 46), angle(43, 46), angle(4, 61), angle(57, 61),
		angle(3, 94), angle(5, 76), angle(5, 77), angle(7, 106), angle(101, 108), angle(2730, 8191), angle(5461, 8191), angle(1170, 8191), angle(2341, 8191),
	}
}

func TestLimbOf(t *testing.T) {
	for limb, angles := range map[impl.RayPair][]impl.Angle{
		// Inside of one wake, inside of several ones, and at the ends of those that are inside of others.
		rayPair(1, 3, 2, 3):         {angle(1, 2), angle(3, 7), angle(4, 7), angle(2, 5), angle(3, 5), angle(7, 15), angle(11, 31), angle(13, 31), angle(18, 31), angle(5, 12), angle(127, 255), angle(128, 255), angle(2731, 8191), angle(5460, 8191)},
		rayPair(1, 7, 2, 7):         {angle(1, 6), angle(1, 4), angle(1, 5), angle(4, 15), angle(6, 31), angle(9, 56), angle(10, 63), angle(17, 63), angle(1171, 8191), angle(2340, 8191)},
		rayPair(5, 7, 6, 7):         {angle(3, 4), angle(5, 6), angle(4, 5), angle(11, 15), angle(53, 63)},
		rayPair(1, 15, 2, 15):       {angle(1, 8), angle(1, 10), angle(3, 31), angle(4, 31)},
		rayPair(13, 15, 14, 15):     {angle(7, 8), angle(9, 10), angle(28, 31), angle(27, 31)},
		rayPair(9, 31, 10, 31):      {angle(3, 10), angle(5, 17), angle(19, 63), angle(20, 63)},
		rayPair(21, 31, 22, 31):     {angle(7, 10), angle(12, 17)},
		rayPair(1, 31, 2, 31):       {angle(1, 16), angle(1, 21)},
		rayPair(61, 63, 62, 63):     {angle(33, 34)},
		rayPair(17, 127, 18, 127):   {angle(5, 36)},
		rayPair(1, 255, 2, 255):     {angle(1, 128), angle(3, 511)},
		rayPair(73, 255, 74, 255):   {angle(15, 52)},
		rayPair(253, 255, 254, 255): {angle(127, 128), angle(508, 511)},
	} {
		for _, x := range angles {
			checkLimb(t, x, limb, impl.ErrNone)
		}
	}
	// At the lower and at the upper end of a wake that is in no other one.
	for _, limb := range knownLimbs() {
		checkLimb(t, limb.Lower, limb, impl.ErrNone)
		checkLimb(t, limb.Upper, limb, impl.ErrNone)
	}
	for _, x := range withoutLimb() {
		checkLimb(t, x, impl.RayPair{}, impl.ErrNotFound)
	}
}

// limbPoints returns angles for which limbs are asked: all those with a small Den, the angles of all ray
// pairs, and those with the Den MaxDen ahead of and behind each end of a limb.
func limbPoints() []impl.Angle {
	list := append(anglesUpTo(40), withoutLimb()...)
	for _, pair := range pairsByHandUpTo(8) {
		list = append(list, bothAngles(pair)...)
	}
	for _, limb := range knownLimbs() {
		for _, x := range bothAngles(limb) {
			ahead := x.Num * 8191 / x.Den
			list = append(list, reduced(ahead, 8191), reduced(ahead+1, 8191))
		}
	}
	full, more := longAngles()
	return slices.Concat(list, full, more)
}

// TestLimbsByHand holds limbs of many angles against those found without the program.
func TestLimbsByHand(t *testing.T) {
	pairs := pairsByHandUpTo(8)
	met, missed := map[impl.RayPair]int{}, 0
	for _, x := range limbPoints() {
		want, code := limbByHand(x, pairs)
		checkLimb(t, x, want, code)
		if code == impl.ErrNone {
			met[want]++
		} else {
			missed++
		}
	}
	for _, limb := range knownLimbs() {
		if met[limb] < 4 {
			t.Errorf("%v is the limb of only %d angles", limb, met[limb])
		}
	}
	if len(met) != 21 || len(knownLimbs()) != 21 || missed < 60 {
		t.Errorf("%d limbs, %d angles without one", len(met), missed)
	}
}

func checkObstructed(t *testing.T, x, y impl.Angle, want bool, wantCode int64) {
	t.Helper()
	got, code := impl.AreObstructed(x, y)
	checkAnswer(t, fmt.Sprintf("AreObstructed(%v, %v)", x, y), got, code, want, wantCode)
}

func TestAreObstructed(t *testing.T) {
	for _, both := range [][2]impl.Angle{
		// Opposite angles, equal ones, and others.
		{angle(1, 3), angle(2, 3)}, {angle(1, 7), angle(6, 7)}, {angle(2, 7), angle(5, 7)}, {angle(1, 4), angle(3, 4)}, {angle(9, 31), angle(22, 31)}, {angle(1, 15), angle(14, 15)}, {angle(1, 255), angle(254, 255)}, {angle(1, 128), angle(127, 128)},
		{angle(1, 3), angle(1, 3)}, {angle(2, 3), angle(2, 3)}, {angle(1, 2), angle(1, 2)}, {angle(3, 7), angle(3, 7)},
		{angle(3, 7), angle(1, 2)}, {angle(1, 3), angle(13, 31)}, {angle(1, 7), angle(5, 7)}, {angle(2, 7), angle(6, 7)}, {angle(1, 5), angle(11, 15)}, {angle(1, 6), angle(3, 4)}, {angle(10, 31), angle(22, 31)}, {angle(1, 255), angle(253, 255)}, {angle(2731, 8191), angle(2731, 8191)},
	} {
		checkObstructed(t, both[0], both[1], true, impl.ErrNone)
		checkObstructed(t, both[1], both[0], true, impl.ErrNone)
	}
	for _, both := range [][2]impl.Angle{
		// Both have limbs, which would be the same ones if u was taken as it is, or which are others.
		{angle(1, 7), angle(1, 7)}, {angle(1, 7), angle(2, 7)}, {angle(1, 4), angle(1, 6)}, {angle(9, 31), angle(10, 31)}, {angle(14, 15), angle(13, 15)}, {angle(1, 3), angle(1, 7)}, {angle(1, 2), angle(6, 7)}, {angle(1, 7), angle(14, 15)}, {angle(9, 31), angle(6, 7)}, {angle(1, 255), angle(126, 127)},
		// One of them has no limb, or neither has one, though they are equal or opposite to each other.
		{angle(0, 1), angle(1, 3)}, {angle(0, 1), angle(1, 2)}, {angle(1, 256), angle(254, 255)}, {angle(2730, 8191), angle(1, 3)}, {angle(5461, 8191), angle(1, 3)}, {angle(0, 1), angle(0, 1)}, {angle(1, 8191), angle(8190, 8191)}, {angle(3, 46), angle(43, 46)}, {angle(4, 61), angle(4, 61)}, {angle(1, 511), angle(510, 511)}, {angle(0, 1), angle(1, 8191)},
	} {
		checkObstructed(t, both[0], both[1], false, impl.ErrNone)
		checkObstructed(t, both[1], both[0], false, impl.ErrNone)
	}
}

// TestObstructedByHand holds whether angles are obstructed against limbs found without the program.
func TestObstructedByHand(t *testing.T) {
	pairs := pairsByHandUpTo(8)
	full, more := longAngles()
	sample := slices.Concat(anglesUpTo(6), withoutLimb()[:4], full, more[:2])
	for _, limb := range knownLimbs() {
		sample = append(sample, limb.Lower)
	}
	answers := map[bool]int{}
	for _, x := range sample {
		for _, y := range sample {
			limb, code := limbByHand(x, pairs)
			other, otherCode := limbByHand(oppositeByHand(y), pairs)
			want := code == impl.ErrNone && otherCode == impl.ErrNone && limb == other
			checkObstructed(t, x, y, want, impl.ErrNone)
			answers[want]++
		}
	}
	if answers[true] < 60 || answers[false] < 1500 {
		t.Errorf("so many answers: %v", answers)
	}
}

func TestOppositeAngle(t *testing.T) {
	for x, want := range map[impl.Angle]impl.Angle{
		angle(0, 1): angle(0, 1), angle(1, 2): angle(1, 2), angle(1, 3): angle(2, 3), angle(2, 3): angle(1, 3), angle(1, 4): angle(3, 4), angle(3, 8): angle(5, 8), angle(5, 6): angle(1, 6), angle(3, 7): angle(4, 7), angle(1, 8191): angle(8190, 8191), angle(4096, 8191): angle(4095, 8191), angle(8189, 8190): angle(1, 8190), angle(1, 641): angle(640, 641),
	} {
		got, code := impl.OppositeAngle(x)
		checkAngle(t, fmt.Sprintf("OppositeAngle(%v)", x), got, code, want, impl.ErrNone)
	}
	full, more := longAngles()
	for _, x := range slices.Concat(sampleAngles(), full, more) {
		got, code := impl.OppositeAngle(x)
		checkAngle(t, fmt.Sprintf("OppositeAngle(%v)", x), got, code, oppositeByHand(x), impl.ErrNone)
	}
}

// TestWhatIsNoAngleHasNoLimb asks for things that are not angles, as the first argument and as the second
// one, beside angles with a limb and without one.
func TestWhatIsNoAngleHasNoLimb(t *testing.T) {
	for _, bad := range notAngles() {
		checkLimb(t, bad, impl.RayPair{}, impl.ErrInvalid)
		got, code := impl.OppositeAngle(bad)
		checkAngle(t, fmt.Sprintf("OppositeAngle(%v)", bad), got, code, angle(0, 0), impl.ErrInvalid)
		for _, x := range []impl.Angle{angle(0, 1), angle(1, 3), angle(1, 2), angle(1, 8191), angle(1, 8179), bad} {
			checkObstructed(t, bad, x, false, impl.ErrInvalid)
			checkObstructed(t, x, bad, false, impl.ErrInvalid)
		}
	}
}
